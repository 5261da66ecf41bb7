/-
  Layer 5: what waits is settled.
-/
import Derived.Test.YtienhidbgohhcaaDkLaw
set_option linter.unusedVariables false
set_option linter.unusedSimpArgs false
namespace Go.Proofs.Ytienhidbgohhcaa
open Go.RowKit

def Dk.DV.mid (m : Nat → Nat) (A : Dk.DV) (k : Nat) : Dk.DV := { A with seen := (Dk.aft m A.wait (A.seen, A.last) k).1, last := (Dk.aft m A.wait (A.seen, A.last) k).2 }
/-- Settled as far as the k-th write. -/
def SetAt (w : World) (d s l : Nat) (v : Value) (n : Nat) (A : Dk.DV) (m : Nat → Nat) (k : Nat) (wr : World) : Prop := DkAt wr d s l v n (A.mid m k) ∧ Chg (fun j => j = s ∨ j = l) w wr
/-- All is settled. -/
def Settled (d s l n : Nat) (A : Dk.DV) (m : Nat → Nat) (w : World) (e : Ending) (w' : World) : Prop :=
  e = .returned (.tuple #[]) ∧ DkAt w' d s l (.slice none 0 0) n (A.settle m) ∧ Chg (fun j => j = d ∨ j = s ∨ j = l) w w'

theorem bys_sec (R : List Int) (o n : Nat) : bys ((R.drop o).take n) = ((bys R).drop o).take n := by simp [bys, List.map_take, List.map_drop]
theorem wcell_zero (i : Nat) (X : List Int) : (wcell (i, X))[0]? = some (.int .i64 (i : Int)) := rfl
theorem Chg.step {S : Nat → Prop} {w w1 w2 : World} (h : Chg S w w1) (k : Chg S w1 w2) : Chg S w w2 := h.trans (k.mono fun _ _ hs => .inl hs)
theorem heap_drew' (w : World) (k : Nat) : w.drew.heap[k]? = w.heap[k]? := rfl

theorem SetAt.step {w wr : World} {d s l : Nat} {v : Value} {n : Nat} {A : Dk.DV} {m : Nat → Nat} {k i : Nat} {X : List Int} {ob : Obj} (h : SetAt w d s l v n A m k wr) (hk : k < A.wait.length) (hx : A.wait.getD k (0, []) = (i, X)) (hf : Dk.Fits n A) :
    ∃ R, R.length = 64 ∧ ((wr.alloc ob).drew.setCells l (i * 64) (bys (X.take (m k)))).drew.rangeAt l (i * 64) (bys R) ∧
      SetAt w d s l v n A m (k + 1) (((wr.alloc ob).drew.setCells l (i * 64) (bys (X.take (m k)))).drew.setCells s (i * 64) (bys R)) := by
  obtain ⟨h1, h2⟩ := h
  have hi : i < n ∧ X.length = 64 := by
    have := hf.wait (A.wait.getD k (0, [])) (by rw [List.getD_eq_getElem?_getD, List.getElem?_eq_getElem hk]; simp)
    rw [hx] at this
    exact this
  have hl1 := h1.fits.last
  have hs1 := h1.fits.seen
  have hsl := Dk.stepS_len (m := m k) (x := (i, X)) (p := Dk.aft m A.wait (A.seen, A.last) k) hs1 hl1 hi.1 hi.2
  have e : Dk.aft m A.wait (A.seen, A.last) (k + 1) = Dk.stepS (m k) (i, X) (Dk.aft m A.wait (A.seen, A.last) k) := by
    show Dk.stepS (m k) (A.wait.getD k (0, [])) _ = _
    rw [hx]
  have hnw := h1.lt
  have q1 : Chg (fun _ => False) wr (wr.alloc ob).drew := (chg_alloc wr ob).step .drew
  have g1 := h1.apart q1 (fun _ _ h => h)
  have b2 := heap_setCells_same l 57 (bys (X.take (m k))) (i * 64) (wr.alloc ob).drew _ g1.last (by rw [bys_len, bys_len]; simp; omega)
  rw [← bys_splice, Nat.mul_comm i 64] at b2
  have q2 : Chg (fun j => j = l) (wr.alloc ob).drew ((wr.alloc ob).drew.setCells l (i * 64) (bys (X.take (m k)))) := chg_setCells (S := fun j => j = l) rfl _ _ _
  rw [Nat.mul_comm i 64] at q2
  refine ⟨((splice (Dk.aft m A.wait (A.seen, A.last) k).2 (64 * i) (X.take (m k))).drop (64 * i)).take 64, Dk.sec_len (by exact hsl.2) hi.1, ?_, ?_, ?_⟩
  · rw [Nat.mul_comm i 64]
    have := rangeAt_blk (w := ((wr.alloc ob).drew.setCells l (64 * i) (bys (X.take (m k)))).drew) b2 (64 * i) 64
    rw [bys_sec]
    exact this
  · rw [Nat.mul_comm i 64]
    have hR : (((splice (Dk.aft m A.wait (A.seen, A.last) k).2 (64 * i) (X.take (m k))).drop (64 * i)).take 64).length = 64 := Dk.sec_len (by exact hsl.2) hi.1
    generalize hRR : ((splice (Dk.aft m A.wait (A.seen, A.last) k).2 (64 * i) (X.take (m k))).drop (64 * i)).take 64 = R at *
    have hsw : ((wr.alloc ob).drew.setCells l (64 * i) (bys (X.take (m k)))).drew.heap[s]? = some (.cells (bys (A.mid m k).seen).toArray 57 (0, 0)) :=
      (q2.block s (by have := g1.lt s (.inr (.inl rfl)); omega) h1.ne).trans g1.seen
    have b3 := heap_setCells_same s 57 (bys R) (64 * i) ((wr.alloc ob).drew.setCells l (64 * i) (bys (X.take (m k)))).drew _ hsw (by rw [bys_len, bys_len, hR]; have := hs1; omega)
    rw [← bys_splice] at b3
    have q3 : Chg (fun j => j = s) ((wr.alloc ob).drew.setCells l (64 * i) (bys (X.take (m k)))).drew (((wr.alloc ob).drew.setCells l (64 * i) (bys (X.take (m k)))).drew.setCells s (64 * i) (bys R)) := chg_setCells (S := fun j => j = s) rfl _ _ _
    have q4 : Chg (fun j => j = s ∨ j = l) wr (((wr.alloc ob).drew.setCells l (64 * i) (bys (X.take (m k)))).drew.setCells s (64 * i) (bys R)) :=
      (q1.mono fun _ _ h => h.elim).step ((q2.mono fun _ _ h => .inr h).step (Chg.drew.step (q3.mono fun _ _ h => .inl h)))
    have hnd := h1.nds
    have hne := h1.ne
    refine ⟨(q4.block d (hnw d (.inl rfl)) (by omega)).trans h1.head, ?_, ?_, ?_, ⟨?_, ?_, hf.wait, hf.small⟩, h1.ne, h1.nv⟩
    · rw [b3]
      congr 3
      simp only [Dk.DV.mid, e, Dk.stepS, hRR]
    · rw [q3.block l (by rw [show (((wr.alloc ob).drew.setCells l (64 * i) (bys (X.take (m k)))).drew).heap.size = _ from size_setCells _ _ _ _]; exact g1.lt l (.inr (.inr (.inl rfl)))) (fun e => h1.ne e.symm)]
      rw [heap_drew', b2]
      congr 3
      simp only [Dk.DV.mid, e, Dk.stepS]
    · obtain ⟨w1, w2 | ⟨g, cap, cur, hv, hg, hh, r⟩⟩ := h1.wait
      · exact ⟨w1, .inl w2⟩
      · have hng := h1.nv g (by rw [hv]; rfl)
        exact ⟨w1, .inr ⟨g, cap, cur, hv, hg, (q4.block g (hnw g (.inr (.inr (.inr (by rw [hv]; rfl))))) (by omega)).trans hh, r⟩⟩
    · show (Dk.DV.mid m A (k + 1)).seen.length = _
      simp only [Dk.DV.mid, e]
      exact hsl.1
    · show (Dk.DV.mid m A (k + 1)).last.length = _
      simp only [Dk.DV.mid, e]
      exact hsl.2
  · have q3 : Chg (fun j => j = s ∨ j = l) (((wr.alloc ob).drew.setCells l (i * 64) (bys (X.take (m k)))).drew) (((wr.alloc ob).drew.setCells l (i * 64) (bys (X.take (m k)))).drew.setCells s (i * 64) (bys (((splice (Dk.aft m A.wait (A.seen, A.last) k).2 (64 * i) (X.take (m k))).drop (64 * i)).take 64))) := chg_setCells (S := fun j => j = s ∨ j = l) (.inl rfl) _ _ _
    rw [Nat.mul_comm i 64] at q3 ⊢
    exact h2.step ((q1.mono fun _ _ h => h.elim).step ((q2.mono fun _ _ h => .inr h).step (Chg.drew.step q3)))
theorem SetAt.end' {w wr : World} {d s l : Nat} {v : Value} {n : Nat} {A : Dk.DV} {m : Nat → Nat} (h : SetAt w d s l v n A m A.wait.length wr) (hf : Dk.Fits n A) :
    Settled d s l n A m w (.returned (.tuple #[])) (wr.setCell ⟨d, 2, none⟩ (.slice none 0 0)) := by
  obtain ⟨h1, h2⟩ := h
  have hnd := h1.nds
  have q : Chg (fun j => j = d) wr (wr.setCell ⟨d, 2, none⟩ (.slice none 0 0)) := chg_setCell (S := fun j => j = d) rfl _ _ _
  refine ⟨rfl, ⟨?_, ?_, ?_, World.ownsRow_nil _ _ _ _, hf.settle m, h1.ne, fun k hk => by cases hk⟩, (h2.mono fun _ _ h => .inr h).step (q.mono fun _ _ h => .inl h)⟩
  · rw [heap_setCell_same wr d 2 _ _ _ h1.head]
    rfl
  · exact (q.block s (h1.lt s (.inr (.inl rfl))) (by omega)).trans h1.seen
  · exact (q.block l (h1.lt l (.inr (.inr (.inl rfl)))) (by omega)).trans h1.last

set_option maxRecDepth 100000 in
set_option maxHeartbeats 4000000 in
theorem settle_any {w : World} {d s l : Nat} {v : Value} {n : Nat} {A : Dk.DV} (h : DkAt w d s l v n A) (fid : FuncId) (cap : Array Value) (m : Nat → Nat) (hm : ∀ k, m k ≤ 64) (hent : ∀ args w, (callFunc fid args).run Try.prog w = .ok (.enter fid args) w)
    (HC : ∀ W k, Chg (fun j => j = s ∨ j = l) w W → k < A.wait.length → Calls Try.prog fid (#[.int .i64 (k : Int)] ++ cap) W fun e w' => e = .returned (.int .i64 (m k : Int)) ∧ W = w') :
    Calls Try.prog 24 #[.pointer (some ⟨d, 0, none⟩), .func (.func fid) #[] cap] w (Settled d s l n A m w) := by
  obtain ⟨c0, c1, c2, c3, c4, f⟩ := h.cells
  obtain ⟨va, vc, rfl⟩ : ∃ a c, v = .slice a A.wait.length c := by
    obtain ⟨_, ⟨rfl, e⟩ | ⟨g, cap, cur, hv, _⟩⟩ := h.wait
    · exact ⟨none, 0, by rw [e]⟩
    · exact ⟨_, _, hv⟩
  have H0 : Hid (SetAt w d s l (.slice va A.wait.length vc) n A m 0 w) := Lib.hid ⟨h, Chg.refl _ _⟩
  have HFT := Lib.hid h.fits
  have HCC := Lib.hid HC
  have HMM := Lib.hid hm
  clear h HC hm
  generalize hL : A.wait.length = L at *
  have HL := Lib.hid hL
  clear hL
  go_enter Try.func24, Try.ntmps24
  go_wp2
  go_loopw [11] (fun (i : Value) (wr : World) => ∃ k : Nat, k ≤ L ∧ i = .int .i64 k ∧ Hid (SetAt w d s l (.slice va L vc) n A m k wr)) (fun i _ => L - (intOf i).toNat)
  case atStart => exact ⟨0, Nat.zero_le _, rfl, H0⟩
  case round =>
    obtain ⟨k, hk, rfl, HK⟩ := hrel
    clear H0 c0 c1 c2 c3 c4 f
    by_cases hlt : k < L
    · have hfw := HFT.out.wait
      obtain ⟨⟨i, X⟩, hx⟩ : ∃ x, A.wait.getD k (0, []) = x := ⟨_, rfl⟩
      have hiX := hfw (A.wait.getD k (0, [])) (by rw [List.getD_eq_getElem?_getD, List.getElem?_eq_getElem (by rw [HL.out]; exact hlt)]; simp)
      rw [hx] at hiX
      obtain ⟨g, rfl, hLm, hcell⟩ : ∃ g, va = some ⟨g, 0, none⟩ ∧ L ≤ 9223372036854775807 ∧ wr.rangeAt g (k * 65) (wcell (i, X)) := by
        obtain ⟨z1, ⟨z2, z3⟩ | ⟨g, cap', cur, hv, hg, hh, z4, z5, z6, z7⟩⟩ := HK.out.1.wait
        · have := HL.out
          have z4 : A.wait.length = 0 := z3
          omega
        · refine ⟨g, by cases hv; rfl, by have := HL.out; have e4 : A.wait.length ≤ cap' := z4; unfold maxLen at z5; omega, fun j u hu => ?_⟩
          have q := wcells_at A.wait (fun x hx => (hfw x hx).2) k (by rw [HL.out]; exact hlt) j u (by rw [hx]; exact hu)
          rw [show wcells A.wait = wcells (Dk.DV.mid m A k).wait from rfl, ← z7, List.getElem?_take] at q
          split at q
          · simp only [World.cell?, hh]
            rw [Nat.mul_comm k 65]
            simpa using q
          · cases q
      obtain ⟨R, hR1, hR2, hR3⟩ := HK.out.step (ob := .cells (wcell (i, X)).toArray 73) (by rw [HL.out]; exact hlt) hx HFT.out
      have hsz : (Try.prog.info? 73).map (·.size) = some (wcell (i, X)).length := by rw [size_write]; simp [wcell, bys_len, hiX.2]
      have HNX := Lib.hid hR3
      have HRG := Lib.hid hR2
      have HRL := Lib.hid hR1
      have HIX := Lib.hid hiX
      have zw := fun w => (zero_of_info zero_write).1 w
      obtain ⟨Z, hZ⟩ : ∃ Z, (wcell (0, List.replicate 64 0)) = Z := ⟨_, rfl⟩
      rw [hZ] at zw
      have HZ := Lib.hid hZ
      have hlt' := Lib.hid hlt
      obtain ⟨W1, hW1⟩ : ∃ W1, W1 = wr.alloc (.cells (wcell (i, X)).toArray 73) := ⟨_, rfl⟩
      have hblk : W1.heap[wr.heap.size]? = some (.cells (wcell (i, X)).toArray 73 (0, 0)) := by rw [hW1]; exact heap_alloc_new _ _
      have g1 : DkAt W1.drew d s l (.slice (some ⟨g, 0, none⟩) L vc) n (A.mid m k) := by
        rw [hW1]
        exact HK.out.1.kept ((Below.refl _ _).alloc (Nat.le_refl _) _).drew
      have q1 : Chg (fun j => j = s ∨ j = l) w W1.drew := by rw [hW1]; exact HK.out.2.step ((chg_alloc _ _).step .drew)
      rw [← hW1] at hR2 hR3
      have HC := Lib.hid (HCC.out W1.drew k q1 hlt)
      have HNX := Lib.hid hR3
      have HRG := Lib.hid hR2
      have HG1 := Lib.hid g1
      have HW1 := Lib.hid hW1
      have hgl := HK.out.1.lt
      have hdB : d ≠ wr.heap.size := by have := hgl d (.inl rfl); omega
      have hlB : l ≠ wr.heap.size := by have := hgl l (.inr (.inr (.inl rfl))); omega
      have hsB : s ≠ wr.heap.size := by have := hgl s (.inr (.inl rfl)); omega
      have hnd := g1.nds
      have hmk := HMM.out k
      have hi0 : (0 : Int) ≤ (i : Int) := by omega
      have hi1 : i < n := hiX.1
      have hX := hiX.2
      have hk1 : k + 1 ≤ 9223372036854775807 := by omega
      have hns : n ≤ 1000 := HFT.out.small
      clear hLm hR1 hR2 hR3 hfw hiX hZ hW1 g1 q1 hgl
      go_wp2_with (first | (with_reducible refine wpList_load_mid rfl 73 (.tmp 14) rfl g (k * 65) rfl (wcell (i, X)) _ hcell Try.underlying73 rfl hsz ?_) | (with_reducible refine wpList_alloc_agg rfl 73 rfl Z.toArray zw ?_) | (with_reducible refine wpList_store_new rfl 73 (.tmp 5) (.tmp 15) rfl wr Z.toArray (wcell (i, X)).toArray rfl rfl rfl (by rw [hsz]; simp) (by rw [← HZ.out]; simp [wcell, bys_len, hX]) (by simp [wcell, bys, b8, Value.oneCell']) ?_))
      rw [← HW1.out]
      obtain ⟨c0, c1, c2, c3, c4, f⟩ := HG1.out.cells
      have b0 : W1.drew.cell? ⟨wr.heap.size, 0, none⟩ = some (.int .i64 (i : Int)) := by simp [World.cell?, heap_drew', hblk, wcell]
      have hm0 : (0 : Int) ≤ (m k : Int) := by omega
      have hm1 : ((m k : Nat) : Int) ≤ 64 := by omega
      have hsrc : ∀ j v, (bys (X.take (m k)))[j]? = some v → W1.drew.cell? ((⟨wr.heap.size, 1, none⟩ : Addr).add j) = some v := by
        intro j u hu
        rw [Addr.add_mid]
        rw [bys, List.map_take, List.getElem?_take] at hu
        split at hu
        · simp only [World.cell?, heap_drew', hblk]
          have : (wcell (i, X))[1 + j]? = some u := by
            simp only [wcell, Nat.add_comm 1 j, List.getElem?_cons_succ]
            exact hu
          simpa using this
        · cases hu
      have hlen : (bys (X.take (m k))).length = Nat.min 64 (m k) := by rw [bys_len, List.length_take, hX]; show min (m k) 64 = min 64 (m k); omega
      have hth : W1.drew.there l (i * 64) (bys (X.take (m k))).length := there_blk HG1.out.last (i * 64) _ (by rw [bys_len, bys_len, List.length_take, HG1.out.fits.last]; omega)
      have e1 := World.cell?_setCells_out l (bys (X.take (m k))) (i * 64) W1.drew ⟨d, 1, none⟩ (fun h => absurd h (by dsimp only; omega))
      have e0 := World.cell?_setCells_out l (bys (X.take (m k))) (i * 64) W1.drew ⟨d, 0, none⟩ (fun h => absurd h (by dsimp only; omega))
      have eb := World.cell?_setCells_out l (bys (X.take (m k))) (i * 64) W1.drew ⟨wr.heap.size, 0, none⟩ (fun h => absurd h (by dsimp only; omega))
      rw [c1] at e1
      rw [c0] at e0
      rw [b0] at eb
      have hts : (W1.drew.setCells l (i * 64) (bys (X.take (m k)))).there s (i * 64) 64 := World.there_setCells (there_blk HG1.out.seen (i * 64) 64 (by rw [bys_len, HG1.out.fits.seen]; omega)) _ _ _
      have h1s := bys_one (X.take (m k))
      have HE := Lib.hid (And.intro e0 (And.intro e1 (And.intro eb hts)))
      have HCP := Lib.hid (And.intro hsrc (And.intro hlen (And.intro hth h1s)))
      clear e0 e1 eb hts hsrc hlen hth h1s f hblk
      refine wp_region_held_drew (S := (fun w' => w'.cell? ⟨d, 1, none⟩ = some (.slice (some ⟨l, 0, none⟩) n n) ∧ w'.cell? ⟨wr.heap.size, 0, none⟩ = some (.int .i64 (i : Int)))) (by kernel_rfl) ?_ (fun hHeld => ?_)
      · exact ⟨c1, b0⟩
      refine wpAnyH_take (i := 0) (v := ?_) (by rfl) (by kernel_rfl) (by kernel_rfl) (by kernel_rfl) (by exact fun _ _ _ h => h) (Or.inl ⟨by rfl, ?_⟩) hHeld ?_
      rotate_left 1
      · intro w' hSw
        (try dsimp only at hSw)
        go_simp
        try with_reducible rfl
      try simp only [Act.put, List.setIfInBounds_toArray, List.set_cons_zero, List.set_cons_succ, List.getElem_toArray, List.getElem_cons_zero, List.getElem_cons_succ]
      refine wpAnyH_take (i := 1) (v := ?_) (by rfl) (by kernel_rfl) (by kernel_rfl) (by kernel_rfl) (by exact fun _ _ _ h => h) (Or.inl ⟨by rfl, ?_⟩) hHeld ?_
      rotate_left 1
      · intro w' hSw
        (try dsimp only at hSw)
        go_simp
        try with_reducible rfl
      try simp only [Act.put, List.setIfInBounds_toArray, List.set_cons_zero, List.set_cons_succ, List.getElem_toArray, List.getElem_cons_zero, List.getElem_cons_succ]
      refine wpAnyH_take (i := 2) (v := ?_) (by rfl) (by kernel_rfl) (by kernel_rfl) (by kernel_rfl) (by exact fun _ _ _ h => h) (Or.inl ⟨by rfl, ?_⟩) hHeld ?_
      rotate_left 1
      · intro w' hSw
        (try dsimp only at hSw)
        go_simp
        try with_reducible rfl
      try simp only [Act.put, List.setIfInBounds_toArray, List.set_cons_zero, List.set_cons_succ, List.getElem_toArray, List.getElem_cons_zero, List.getElem_cons_succ]
      refine wpAnyH_take (i := 3) (v := ?_) (by rfl) (by kernel_rfl) (by kernel_rfl) (by kernel_rfl) (by exact fun _ _ _ h => h) (Or.inl ⟨by rfl, ?_⟩) hHeld ?_
      rotate_left 1
      · intro w' hSw
        (try dsimp only at hSw)
        go_simp
        try with_reducible rfl
      try simp only [Act.put, List.setIfInBounds_toArray, List.set_cons_zero, List.set_cons_succ, List.getElem_toArray, List.getElem_cons_zero, List.getElem_cons_succ]
      refine wpAnyH_take (i := 4) (v := ?_) (by rfl) (by kernel_rfl) (by kernel_rfl) (by kernel_rfl) (by exact fun _ _ _ h => h) (Or.inl ⟨by rfl, ?_⟩) hHeld ?_
      rotate_left 1
      · intro w' hSw
        (try dsimp only at hSw)
        go_simp
        try with_reducible rfl
      try simp only [Act.put, List.setIfInBounds_toArray, List.set_cons_zero, List.set_cons_succ, List.getElem_toArray, List.getElem_cons_zero, List.getElem_cons_succ]
      refine wpAnyH_take (i := 5) (v := ?_) (by rfl) (by kernel_rfl) (by kernel_rfl) (by kernel_rfl) (by exact fun _ _ _ h => h) (Or.inl ⟨by rfl, ?_⟩) hHeld ?_
      rotate_left 1
      · intro w' hSw
        (try dsimp only at hSw)
        go_simp
        try with_reducible rfl
      try simp only [Act.put, List.setIfInBounds_toArray, List.set_cons_zero, List.set_cons_succ, List.getElem_toArray, List.getElem_cons_zero, List.getElem_cons_succ]
      refine wpAnyH_take (i := 6) (v := ?_) (by rfl) (by kernel_rfl) (by kernel_rfl) (by kernel_rfl) (by exact fun _ _ _ h => h) (Or.inl ⟨by rfl, ?_⟩) hHeld ?_
      rotate_left 1
      · intro w' hSw
        (try dsimp only at hSw)
        go_simp
        try with_reducible rfl
      try simp only [Act.put, List.setIfInBounds_toArray, List.set_cons_zero, List.set_cons_succ, List.getElem_toArray, List.getElem_cons_zero, List.getElem_cons_succ]
      refine wpAnyH_take (i := 7) (v := ?_) (by rfl) (by kernel_rfl) (by kernel_rfl) (by kernel_rfl) (by exact fun _ _ _ h => h) (Or.inl ⟨by rfl, ?_⟩) hHeld ?_
      rotate_left 1
      · intro w' hSw
        (try dsimp only at hSw)
        go_simp
        try with_reducible rfl
      try simp only [Act.put, List.setIfInBounds_toArray, List.set_cons_zero, List.set_cons_succ, List.getElem_toArray, List.getElem_cons_zero, List.getElem_cons_succ]
      refine wpAnyH_take (i := 8) (v := ?_) (by rfl) (by kernel_rfl) (by kernel_rfl) (by kernel_rfl) (by exact fun _ _ _ h => h) (Or.inl ⟨by rfl, ?_⟩) hHeld ?_
      rotate_left 1
      · intro w' hSw
        (try dsimp only at hSw)
        go_simp
        try with_reducible rfl
      try simp only [Act.put, List.setIfInBounds_toArray, List.set_cons_zero, List.set_cons_succ, List.getElem_toArray, List.getElem_cons_zero, List.getElem_cons_succ]
      refine wpAnyH_take (i := 11) (v := ?_) (by rfl) (by kernel_rfl) (by kernel_rfl) (by kernel_rfl) (by exact fun _ _ _ h => h) (Or.inl ⟨by rfl, ?_⟩) hHeld ?_
      rotate_left 1
      · intro w' hSw
        (try dsimp only at hSw)
        go_simp
        try with_reducible rfl
      try simp only [Act.put, List.setIfInBounds_toArray, List.set_cons_zero, List.set_cons_succ, List.getElem_toArray, List.getElem_cons_zero, List.getElem_cons_succ]
      refine wpAnyH_take (i := 12) (v := ?_) (by rfl) (by kernel_rfl) (by kernel_rfl) (by kernel_rfl) (by exact fun _ _ _ h => h) (Or.inl ⟨by rfl, ?_⟩) hHeld ?_
      rotate_left 1
      · intro w' hSw
        (try dsimp only at hSw)
        go_simp
        try with_reducible rfl
      try simp only [Act.put, List.setIfInBounds_toArray, List.set_cons_zero, List.set_cons_succ, List.getElem_toArray, List.getElem_cons_zero, List.getElem_cons_succ]
      refine wpAnyH_ready (rs := [9]) (by kernel_rfl) (by simp) ?_
      refine AllReadyH.cons (by rfl) (fun K hK => ?_) AllReadyH.nil
      go_simp
      refine HC.out.mono ?_
      rintro e w' ⟨rfl, rfl⟩
      go_wp2_with fail
      refine hK.out _ _ ?_ (fun hHeld => ?_)
      · exact ⟨c1, b0⟩
      clear hK K
      try simp only [Act.put, List.setIfInBounds_toArray, List.set_cons_zero, List.set_cons_succ, List.getElem_toArray, List.getElem_cons_zero, List.getElem_cons_succ]
      refine wpAnyH_take (i := 10) (v := ?_) (by rfl) (by kernel_rfl) (by kernel_rfl) (by kernel_rfl) (by exact fun _ _ _ h => h) (Or.inl ⟨by rfl, ?_⟩) hHeld ?_
      rotate_left 1
      · intro w' hSw
        (try dsimp only at hSw)
        go_simp
        try with_reducible rfl
      try simp only [Act.put, List.setIfInBounds_toArray, List.set_cons_zero, List.set_cons_succ, List.getElem_toArray, List.getElem_cons_zero, List.getElem_cons_succ]
      refine wpAnyH_ready (rs := [13]) (by kernel_rfl) (by simp) ?_
      refine AllReadyH.cons (by rfl) (fun K hK => ?_) AllReadyH.nil
      refine step_copy_mid rfl (.tmp 26) (.tmp 28) 29 29 rfl 5 Try.underlying29 size_byte l (i * 64) (m k) 64 ⟨wr.heap.size, 1, none⟩ 64 64 rfl rfl (bys (X.take (m k))) HCP.out.2.1 HCP.out.1 HCP.out.2.2.1 HCP.out.2.2.2 ?_
      refine hK.out _ _ ?_ (fun hHeld => ?_)
      · exact ⟨HE.out.2.1, HE.out.2.2.1⟩
      clear hK K
      try simp only [Act.put, List.setIfInBounds_toArray, List.set_cons_zero, List.set_cons_succ, List.getElem_toArray, List.getElem_cons_zero, List.getElem_cons_succ]
      refine wpAnyH_done (by kernel_rfl) ?_ _
      clear hHeld
      obtain ⟨W2, hW2⟩ : ∃ W2, W2 = W1.drew.setCells l (i * 64) (bys (X.take (m k))) := ⟨_, rfl⟩
      rw [← hW2] at HE HNX HRG ⊢
      obtain ⟨d0, d1, db, dt⟩ := HE.out
      have dt2 : W2.drew.there s (i * 64) (bys R).length := by rw [bys_len, HRL.out]; exact dt
      have dr := HRG.out
      have hsr : (Try.prog.info? 57).map (·.size) = some (bys R).length := by rw [bys_len, HRL.out]; exact size_sector
      have d0' : W2.drew.cell? ⟨d, 0, none⟩ = some (.slice (some ⟨s, 0, none⟩) n n) := d0
      have d1' : W2.drew.cell? ⟨d, 1, none⟩ = some (.slice (some ⟨l, 0, none⟩) n n) := d1
      have db' : W2.drew.cell? ⟨wr.heap.size, 0, none⟩ = some (.int .i64 (i : Int)) := db
      have e1 := World.cell?_setCells_out s (bys R) (i * 64) W2.drew ⟨d, 1, none⟩ (fun h => absurd h (by dsimp only; omega))
      have e0 := World.cell?_setCells_out s (bys R) (i * 64) W2.drew ⟨d, 0, none⟩ (fun h => absurd h (by dsimp only; omega))
      have eb := World.cell?_setCells_out s (bys R) (i * 64) W2.drew ⟨wr.heap.size, 0, none⟩ (fun h => absurd h (by dsimp only; omega))
      rw [d1'] at e1
      rw [d0'] at e0
      rw [db'] at eb
      have er := World.rangeAt_setCells_apart dr s (i * 64) (bys R) (.inl HK.out.1.ne.symm)
      have hro : (bys R).toArray.all (·.oneCell') = true := all_oneCell_toArray (bys_one R)
      have HE2 := Lib.hid (And.intro e0 (And.intro e1 (And.intro eb er)))
      clear e0 e1 eb er HE hW2 c0 c1 c2 c3 c4 b0 d0 d1 db dt HCP HC
      go_wp2_with fail
      refine wp_region_held_drew (S := (fun w' => w'.cell? ⟨d, 0, none⟩ = some (.slice (some ⟨s, 0, none⟩) n n) ∧ w'.cell? ⟨d, 1, none⟩ = some (.slice (some ⟨l, 0, none⟩) n n) ∧ w'.cell? ⟨wr.heap.size, 0, none⟩ = some (.int .i64 (i : Int)) ∧ w'.rangeAt l (i * 64) (bys R))) (by kernel_rfl) ?_ (fun hHeld => ?_)
      · exact ⟨d0', d1', db', dr⟩
      refine wpAnyH_take (i := 0) (v := ?_) (by rfl) (by kernel_rfl) (by kernel_rfl) (by kernel_rfl) (by exact fun _ _ _ h => h) (Or.inl ⟨by rfl, ?_⟩) hHeld ?_
      rotate_left 1
      · intro w' hSw
        (try dsimp only at hSw)
        go_simp
        try with_reducible rfl
      try simp only [Act.put, List.setIfInBounds_toArray, List.set_cons_zero, List.set_cons_succ, List.getElem_toArray, List.getElem_cons_zero, List.getElem_cons_succ]
      refine wpAnyH_take (i := 1) (v := ?_) (by rfl) (by kernel_rfl) (by kernel_rfl) (by kernel_rfl) (by exact fun _ _ _ h => h) (Or.inl ⟨by rfl, ?_⟩) hHeld ?_
      rotate_left 1
      · intro w' hSw
        (try dsimp only at hSw)
        go_simp
        try with_reducible rfl
      try simp only [Act.put, List.setIfInBounds_toArray, List.set_cons_zero, List.set_cons_succ, List.getElem_toArray, List.getElem_cons_zero, List.getElem_cons_succ]
      refine wpAnyH_take (i := 2) (v := ?_) (by rfl) (by kernel_rfl) (by kernel_rfl) (by kernel_rfl) (by exact fun _ _ _ h => h) (Or.inl ⟨by rfl, ?_⟩) hHeld ?_
      rotate_left 1
      · intro w' hSw
        (try dsimp only at hSw)
        go_simp
        try with_reducible rfl
      try simp only [Act.put, List.setIfInBounds_toArray, List.set_cons_zero, List.set_cons_succ, List.getElem_toArray, List.getElem_cons_zero, List.getElem_cons_succ]
      refine wpAnyH_take (i := 3) (v := ?_) (by rfl) (by kernel_rfl) (by kernel_rfl) (by kernel_rfl) (by exact fun _ _ _ h => h) (Or.inl ⟨by rfl, ?_⟩) hHeld ?_
      rotate_left 1
      · intro w' hSw
        (try dsimp only at hSw)
        go_simp
        try with_reducible rfl
      try simp only [Act.put, List.setIfInBounds_toArray, List.set_cons_zero, List.set_cons_succ, List.getElem_toArray, List.getElem_cons_zero, List.getElem_cons_succ]
      refine wpAnyH_take (i := 4) (v := ?_) (by rfl) (by kernel_rfl) (by kernel_rfl) (by kernel_rfl) (by exact fun _ _ _ h => h) (Or.inl ⟨by rfl, ?_⟩) hHeld ?_
      rotate_left 1
      · intro w' hSw
        (try dsimp only at hSw)
        go_simp
        try with_reducible rfl
      try simp only [Act.put, List.setIfInBounds_toArray, List.set_cons_zero, List.set_cons_succ, List.getElem_toArray, List.getElem_cons_zero, List.getElem_cons_succ]
      refine wpAnyH_take (i := 5) (v := ?_) (by rfl) (by kernel_rfl) (by kernel_rfl) (by kernel_rfl) (by exact fun _ _ _ h => h) (Or.inl ⟨by rfl, ?_⟩) hHeld ?_
      rotate_left 1
      · intro w' hSw
        (try dsimp only at hSw)
        go_simp
        try with_reducible rfl
      try simp only [Act.put, List.setIfInBounds_toArray, List.set_cons_zero, List.set_cons_succ, List.getElem_toArray, List.getElem_cons_zero, List.getElem_cons_succ]
      refine wpAnyH_take (i := 6) (v := ?_) (by rfl) (by kernel_rfl) (by kernel_rfl) (by kernel_rfl) (by exact fun _ _ _ h => h) (Or.inl ⟨by rfl, ?_⟩) hHeld ?_
      rotate_left 1
      · intro w' hSw
        (try dsimp only at hSw)
        go_simp
        try with_reducible rfl
      try simp only [Act.put, List.setIfInBounds_toArray, List.set_cons_zero, List.set_cons_succ, List.getElem_toArray, List.getElem_cons_zero, List.getElem_cons_succ]
      refine wpAnyH_take (i := 7) (v := ?_) (by rfl) (by kernel_rfl) (by kernel_rfl) (by kernel_rfl) (by exact fun _ _ _ h => h) (Or.inl ⟨by rfl, ?_⟩) hHeld ?_
      rotate_left 1
      · intro w' hSw
        (try dsimp only at hSw)
        go_simp
        try with_reducible rfl
      try simp only [Act.put, List.setIfInBounds_toArray, List.set_cons_zero, List.set_cons_succ, List.getElem_toArray, List.getElem_cons_zero, List.getElem_cons_succ]
      refine wpAnyH_take (i := 8) (v := ?_) (by rfl) (by kernel_rfl) (by kernel_rfl) (by kernel_rfl) (by exact fun _ _ _ h => h) (Or.inl ⟨by rfl, ?_⟩) hHeld ?_
      rotate_left 1
      · intro w' hSw
        (try dsimp only at hSw)
        go_simp
        try with_reducible rfl
      try simp only [Act.put, List.setIfInBounds_toArray, List.set_cons_zero, List.set_cons_succ, List.getElem_toArray, List.getElem_cons_zero, List.getElem_cons_succ]
      refine wpAnyH_take (i := 9) (v := ?_) (by rfl) (by kernel_rfl) (by kernel_rfl) (by kernel_rfl) (by exact fun _ _ _ h => h) (Or.inl ⟨by rfl, ?_⟩) hHeld ?_
      rotate_left 1
      · intro w' hSw
        (try dsimp only at hSw)
        go_simp
        try with_reducible rfl
      try simp only [Act.put, List.setIfInBounds_toArray, List.set_cons_zero, List.set_cons_succ, List.getElem_toArray, List.getElem_cons_zero, List.getElem_cons_succ]
      refine wpAnyH_take (i := 10) (v := ?_) (by rfl) (by kernel_rfl) (by kernel_rfl) (by kernel_rfl) (by exact fun _ _ _ h => h) (Or.inl ⟨by rfl, ?_⟩) hHeld ?_
      rotate_left 1
      · intro w' hSw
        (try dsimp only at hSw)
        go_simp
        try with_reducible rfl
      try simp only [Act.put, List.setIfInBounds_toArray, List.set_cons_zero, List.set_cons_succ, List.getElem_toArray, List.getElem_cons_zero, List.getElem_cons_succ]
      refine wpAnyH_take (i := 11) (v := ?_) (by rfl) (by kernel_rfl) (by kernel_rfl) (by kernel_rfl) (by exact fun _ _ _ h => h) (Or.inl ⟨by rfl, ?_⟩) hHeld ?_
      rotate_left 1
      · intro w' hSw
        (try dsimp only at hSw)
        go_simp
        try with_reducible rfl
      try simp only [Act.put, List.setIfInBounds_toArray, List.set_cons_zero, List.set_cons_succ, List.getElem_toArray, List.getElem_cons_zero, List.getElem_cons_succ]
      refine wpAnyH_take (i := 12) (v := ?_) (by rfl) (by kernel_rfl) (by kernel_rfl) (by kernel_rfl) (by exact fun _ _ _ h => h) (Or.inl ⟨by rfl, ?_⟩) hHeld ?_
      rotate_left 1
      · intro w' hSw
        (try dsimp only at hSw)
        go_simp
        try with_reducible rfl
      try simp only [Act.put, List.setIfInBounds_toArray, List.set_cons_zero, List.set_cons_succ, List.getElem_toArray, List.getElem_cons_zero, List.getElem_cons_succ]
      refine wpAnyH_take (i := 13) (v := .agg (bys R).toArray) (by rfl) (by kernel_rfl) (by kernel_rfl) (by kernel_rfl) (by exact fun _ _ _ h => h) (Or.inl ⟨by rfl, ?_⟩) hHeld ?_
      · intro w' hSw
        exact run_load_op 57 (.tmp 42) rfl l (i * 64) rfl (bys R) _ hSw.2.2.2 Try.underlying57 rfl hsr
      try simp only [Act.put, List.setIfInBounds_toArray, List.set_cons_zero, List.set_cons_succ, List.getElem_toArray, List.getElem_cons_zero, List.getElem_cons_succ]
      refine wpAnyH_take (i := 14) (v := ?_) (by rfl) (by kernel_rfl) (by kernel_rfl) (by kernel_rfl) (by exact fun _ _ _ h => h) (Or.inl ⟨by rfl, ?_⟩) hHeld ?_
      rotate_left 1
      · intro w' hSw
        (try dsimp only at hSw)
        go_simp
        try with_reducible rfl
      try simp only [Act.put, List.setIfInBounds_toArray, List.set_cons_zero, List.set_cons_succ, List.getElem_toArray, List.getElem_cons_zero, List.getElem_cons_succ]
      refine wpAnyH_ready (rs := [15]) (by kernel_rfl) (by simp) ?_
      refine AllReadyH.cons (by rfl) (fun K hK => ?_) AllReadyH.nil
      refine step_store_mid rfl 57 (.tmp 44) (.tmp 43) rfl s (i * 64) (bys R).toArray rfl rfl (by simpa using dt2) (by rw [hsr]; simp) hro ?_
      refine hK.out _ _ ?_ (fun hHeld => ?_)
      · exact HE2.out
      clear hK K
      try simp only [Act.put, List.setIfInBounds_toArray, List.set_cons_zero, List.set_cons_succ, List.getElem_toArray, List.getElem_cons_zero, List.getElem_cons_succ]
      refine wpAnyH_done (by kernel_rfl) ?_ _
      clear hHeld
      go_wp2_with fail
      go_roundw
      case rel => exact ⟨k + 1, by omega, by go_num, HNX⟩
      case measure => simp [intOf]; omega
    · obtain rfl : k = L := by omega
      obtain ⟨c0, c1, c2, c3, c4, f⟩ := HK.out.1.cells
      have HEND := Lib.hid ((show SetAt w d s l (.slice va k vc) n A m A.wait.length wr by rw [HL.out]; exact HK.out).end' HFT.out)
      go_wp2
      go_end0
      exact HEND.out
end Go.Proofs.Ytienhidbgohhcaa

