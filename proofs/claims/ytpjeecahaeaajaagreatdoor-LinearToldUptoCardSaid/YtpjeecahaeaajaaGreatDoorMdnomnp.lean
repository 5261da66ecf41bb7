/- By program out of: Shrink, CmpNat, BenchOps, Sub, RatMath2. -/
import Derived.Test.YtpjeecahaeaajaaGreatDoorMofdfac
import Derived.Test.YtpjeecahaeaajaaGreatDoorMdaeofk
import Derived.Test.YtpjeecahaeaajaaGreatDoorMjcjpdh
import Derived.Test.YtpjeecahaeaajaaGreatDoorMjaiomg
import Derived.Shelf.RegionOpen
import Derived.Shelf.Abstract
import Derived.Test.YtpjeecahaeaajaaGreatDoorMhcomgm
set_option linter.unusedVariables false
set_option linter.unusedSimpArgs false
namespace Go.Proofs.YtpjeecahaeaajaaGreatDoor
open Go.RowKit Rep
attribute [local go_sem] Oper.semAt_some
def ShrkIn (w : World) (g cap : Nat) (xs : List Nat) (d : Nat) (pre : List (Nat × Nat)) (W : World) : Prop :=
  ∃ (Q : List Nat) (r k : Nat), k + pre.length = xs.length ∧ Row 68 W g cap (Q.map u32v) ∧ Q.length = xs.length ∧ Lim Q ∧ (∀ j, j < k → Q.getD j 0 = xs.getD j 0) ∧ V (xs.drop k) = V (Q.drop k) * d + r ∧ r < d ∧
    W.heap[w.heap.size]? = some (.cells #[.slice (some ⟨g, 0, none⟩) xs.length cap] 23 (0, 0)) ∧ W.heap[w.heap.size + 1]? = some (.cells #[.int .u32 (d : Int)] 68 (0, 0)) ∧
    W.heap[w.heap.size + 2]? = some (.cells #[.int .u64 (r : Int)] 79 (0, 0)) ∧ W.heap[w.heap.size + 3]? = some (.cells #[.slice (some ⟨g, 0, none⟩) xs.length cap] 23 (0, 0)) ∧
    w.grownBy W (some g)
theorem shrk_own (w : World) (g cap : Nat) (xs : List Nat) (d B0 : Nat) (hB : w.heap.size ≤ B0) : OwnFrom B0 (ShrkIn w g cap xs d) := by
  intro pre W W' row h hg hr
  obtain ⟨Q, r, k, h1, h2, h3, h4, h5, h6, h7, h8, h9, h10, h11, h12⟩ := h
  have kc : ∀ {b : Nat} {c : Array Value} {e : TypeId} {z : Nat × Nat}, W.heap[b]? = some (.cells c e z) → W'.heap[b]? = some (.cells c e z) :=
    fun hb => (grownBy_keeps_cells hg (fun r e => (hr r e).2) hb rfl).trans hb
  obtain ⟨cur, hc, hrest⟩ := h2
  refine ⟨Q, r, k, h1, ⟨cur, kc hc, hrest⟩, h3, h4, h5, h6, h7, kc h8, kc h9, kc h10, kc h11, ⟨hg.os.trans h12.os, hg.tape.trans h12.tape, hg.output.trans h12.output, Nat.le_trans h12.size hg.size, fun j hj hne => ?_⟩⟩
  have hjW : j < W.heap.size := Nat.lt_of_lt_of_le hj h12.size
  exact (hg.block j hjW (fun e => by have := (hr j e.symm).1; omega)).trans (h12.block j hj hne)
theorem drop_cons (b : Nat) (xs : List Nat) (i : Nat) (h : i < xs.length) : val b (xs.drop i) = xs.getD i 0 + b * val b (xs.drop (i + 1)) := by
  rw [List.drop_eq_getElem_cons h, val_cons, getD_lt h]
theorem ShrkIn.step {w : World} {g cap : Nat} {xs : List Nat} {d : Nat} {pre : List (Nat × Nat)} {W : World} (h : ShrkIn w g cap xs d pre W) (hx : Lim xs) (hg : g < w.heap.size) {x : Nat × Nat} (hT : Down xs pre x) (hd : 1 ≤ d) (hd2 : d < 4294967296) :
    ∃ r q0 : Nat, r < d ∧ x.2 < 4294967296 ∧ W.cell? ⟨w.heap.size, 0, none⟩ = some (.slice (some ⟨g, 0, none⟩) xs.length cap) ∧ W.cell? ⟨w.heap.size + 1, 0, none⟩ = some (.int .u32 (d : Int)) ∧
      W.cell? ⟨w.heap.size + 2, 0, none⟩ = some (.int .u64 (r : Int)) ∧ W.frozen? ⟨w.heap.size + 2, 0, none⟩ = false ∧ W.heap[w.heap.size + 2]? = some (.cells #[.int .u64 (r : Int)] 79 (0, 0)) ∧ W.cell? ⟨g, x.1, none⟩ = some (.int .u32 (q0 : Int)) ∧ W.frozen? ⟨g, x.1, none⟩ = false ∧ x.1 < xs.length ∧
      ∀ W', (∀ k, k ≠ w.heap.size + 2 → k ≠ g → W'.heap[k]? = W.heap[k]?) → W'.heap.size = W.heap.size → W'.os = W.os → W'.tape = W.tape → W'.output = W.output →
        (∀ Q : List Value, Row 68 W g cap Q → Row 68 W' g cap (Q.set x.1 (u32v ((r * 4294967296 + x.2) / d)))) →
        W'.heap[w.heap.size + 2]? = some (.cells #[.int .u64 (((r * 4294967296 + x.2) % d : Nat) : Int)] 79 (0, 0)) → ShrkIn w g cap xs d (pre ++ [x]) W' := by
  obtain ⟨Q, r, k, h1, h2, h3, h4, h5, h6, h7, h8, h9, h10, h11, h12⟩ := h
  obtain ⟨i, xv⟩ := x
  obtain ⟨t1, t2, t3⟩ := hT
  simp only at t2 t3
  obtain rfl : k = i + 1 := by omega
  have hi : i < xs.length := by omega
  have hxv : xv < 4294967296 := by rw [t3]; exact hx.getD _ (by omega)
  refine ⟨r, Q.getD i 0, h7, hxv, by simp [World.cell?, h8], by simp [World.cell?, h9], by simp [World.cell?, h10], by simp [World.frozen?, h10], h10, h2.cell _ _ (map_getElem? (by omega)), h2.frozen _, hi, ?_⟩
  intro W' a1 a2 a3 a4 a5 a6 a7
  have hq : (r * 4294967296 + xv) / d < 4294967296 := by
    rw [Nat.div_lt_iff_lt_mul (by omega)]
    have : (r + 1) * 4294967296 ≤ d * 4294967296 := Nat.mul_le_mul_right _ (by omega)
    rw [Nat.add_mul, Nat.one_mul] at this
    rw [Nat.mul_comm 4294967296 d]
    omega
  refine ⟨Q.set i ((r * 4294967296 + xv) / d), (r * 4294967296 + xv) % d, i, by simp; omega, ?_, by simpa using h3, h4.set _ _ hq, fun j hj => ?_, ?_, Nat.mod_lt _ (by omega), ?_, ?_, a7, ?_, ?_⟩
  · rw [List.map_set]; exact a6 _ h2
  · rw [Rep.getD_set_ne (by omega)]; exact h5 j (by omega)
  · unfold V at h6 ⊢
    rw [drop_cons _ xs i hi, drop_cons _ (Q.set i _) i (by simp; omega), getD_set_self (by omega), List.drop_set, if_pos (by omega), h6, ← t3]
    have hm := Nat.mod_add_div (r * 4294967296 + xv) d
    have e1 : (r * 4294967296 + xv) / d * d = d * ((r * 4294967296 + xv) / d) := Nat.mul_comm _ _
    have e2 : 4294967296 * (val 4294967296 (Q.drop (i + 1)) * d + r) = 4294967296 * val 4294967296 (Q.drop (i + 1)) * d + r * 4294967296 := by
      rw [Nat.mul_add, Nat.mul_assoc, Nat.mul_comm 4294967296 r]
    rw [Nat.add_mul, e1, e2]
    omega
  · rw [a1 _ (by omega) (by omega)]; exact h8
  · rw [a1 _ (by omega) (by omega)]; exact h9
  · rw [a1 _ (by omega) (by omega)]; exact h11
  · exact ⟨a3.trans h12.os, a4.trans h12.tape, a5.trans h12.output, by rw [a2]; exact h12.size, fun j hj hne => by rw [a1 _ (by omega) (by simpa using hne)]; exact h12.block j hj hne⟩
theorem or_step {r x : Nat} (hr : r < 4294967296) (hx : x < 4294967296) :
    ∃ T : Nat, bits BinOp.or IntKind.u64 ((r : Int) * 4294967296) (x : Int) = (T : Int) ∧ T = r * 4294967296 + x ∧ T < 18446744073709551616 := by
  refine ⟨r * 4294967296 + x, ?_, rfl, by omega⟩
  have := u64_or_nat (4294967296 * r) x (by omega) (by omega)
  rw [show (r : Int) * 4294967296 = ((4294967296 * r : Nat) : Int) from by omega, this, Nat.or_comm]
  rw [show 4294967296 = 2 ^ 32 from rfl, or_low (by omega)]
  omega
theorem set_one {w : World} {b : Nat} {u : Value} {e : TypeId} (v : Value) (h : w.heap[b]? = some (.cells #[u] e (0, 0))) : (w.setCell ⟨b, 0, none⟩ v).heap[b]? = some (.cells #[v] e (0, 0)) := by
  simp [World.setCell, Array.getElem?_modify, h]
theorem shrk_round {w W : World} {g cap i r xv d T B0 : Nat} {xs : List Nat} {pre : List (Nat × Nat)} (hg : g < w.heap.size) (h8 : W.heap[w.heap.size + 2]? = some (.cells #[.int .u64 (r : Int)] 79 (0, 0)))
    (hn : ∀ W', (∀ k, k ≠ w.heap.size + 2 → k ≠ g → W'.heap[k]? = W.heap[k]?) → W'.heap.size = W.heap.size → W'.os = W.os → W'.tape = W.tape → W'.output = W.output →
        (∀ Q : List Value, Row 68 W g cap Q → Row 68 W' g cap (Q.set i (u32v (T / d)))) →
        W'.heap[w.heap.size + 2]? = some (.cells #[.int .u64 ((T % d : Nat) : Int)] 79 (0, 0)) → ShrkIn w g cap xs d (pre ++ [(i, xv)]) W') :
    KeepsFrom B0 W (((W.setCell ⟨w.heap.size + 1 + 1, 0, none⟩ (.int .u64 (T : Int))).setCell ⟨g, i, none⟩ (.int .u32 ((T : Int) / (d : Int)))).drew.setCell ⟨w.heap.size + 1 + 1, 0, none⟩ (.int .u64 ((T : Int) % (d : Int)))) ∧
      ShrkIn w g cap xs d (pre ++ [(i, xv)]) (((W.setCell ⟨w.heap.size + 1 + 1, 0, none⟩ (.int .u64 (T : Int))).setCell ⟨g, i, none⟩ (.int .u32 ((T : Int) / (d : Int)))).drew.setCell ⟨w.heap.size + 1 + 1, 0, none⟩ (.int .u64 ((T : Int) % (d : Int)))) := by
  refine ⟨((KeepsOthers.setCell _ _ _).trans ((KeepsOthers.setCell _ _ _).trans ((KeepsOthers.drew _).trans (KeepsOthers.setCell _ _ _)))).from _, hn _ (fun k h1 h2 => ?_) (by simp [World.setCell, World.drew]) rfl rfl rfl (fun Q hQ => ?_) ?_⟩
  · rw [Below.heap_setCell _ _ _ _ (by simpa using h1)]
    show ((W.setCell _ _).setCell _ _).heap[k]? = _
    rw [Below.heap_setCell _ _ _ _ (by simpa using h2), Below.heap_setCell _ _ _ _ (by simpa using h1)]
  · exact (((hQ.other ⟨w.heap.size + 1 + 1, 0, none⟩ _ (by simp; omega)).set i (u32v (T / d))).drew).other ⟨w.heap.size + 1 + 1, 0, none⟩ _ (by simp; omega)
  · have h1 := set_one (.int .u64 (T : Int)) h8
    have h2 : ((W.setCell ⟨w.heap.size + 1 + 1, 0, none⟩ (.int .u64 (T : Int))).setCell ⟨g, i, none⟩ (.int .u32 ((T : Int) / (d : Int)))).drew.heap[w.heap.size + 2]? = some (.cells #[.int .u64 (T : Int)] 79 (0, 0)) := by
      show ((W.setCell _ _).setCell _ _).heap[_]? = _
      rw [Below.heap_setCell _ _ _ _ (by simp; omega)]
      exact h1
    exact set_one _ h2
theorem trim_same (a : Option Addr) (n c : Nat) (xs : List Nat) (hn : xs.length = n) (w : World) (hr : Reads w a (xs.map u32v)) (hc : n ≤ c) (hm : c ≤ maxLen) :
    Calls Tryz.prog 71 #[.slice a n c] w fun e w' => e = .returned (trimV a xs c) ∧ w' = w := by
  subst hn
  exact (trim_any a xs c w hr hc hm).mono fun e w' ⟨h1, h2⟩ => ⟨h1, h2.symm⟩
def GivesShrink (B g : Nat) (xs : List Nat) (d : Nat) (w : World) (e : Ending) (w' : World) : Prop :=
  ∃ a' c', e = .returned (.tuple #[.slice a' (L (V xs / d)).length c', .int .u32 (V xs % d : Nat)]) ∧
      Own B w' a' c' (L (V xs / d)) ∧ (a' = none ∨ a' = some ⟨g, 0, none⟩) ∧ w.grownBy w' (some g)
theorem shrk_done {w W : World} {B g cap d r D nq : Nat} {xs Q : List Nat} (hglt : g < w.heap.size) (hg : B ≤ g) (hcx : cap ≤ maxLen) (h4 : Lim Q) (h7 : r < d) (hD : w.heap.size ≤ D) (h1 : Row 68 W g cap (Q.map u32v)) (h2 : Q.length = xs.length)
    (h3 : V (xs.drop 0) = V (Q.drop 0) * d + r) (h5 : w.grownBy W (some g)) :
    GivesShrink B g xs d w (.returned (.tuple #[trimV (some ⟨g, 0, none⟩) Q cap, .int .u32 (r : Int)])) ((W.drewN nq).putObj D (.deferred none)) := by
  rw [List.drop_zero, List.drop_zero] at h3
  have hrow : Row 68 ((W.drewN nq).putObj D (.deferred none)) g cap (Q.map u32v) := h1.of_block (World.putObj_heap_other (w := W.drewN nq) (by omega))
  obtain ⟨a', c', e1, e2, e3⟩ := trimV_own h4 (show Own B ((W.drewN nq).putObj D (.deferred none)) (some ⟨g, 0, none⟩) cap Q from ⟨hcx, .inr ⟨g, rfl, hg, hrow⟩⟩)
  have hq : V xs / d = V Q := by rw [h3, Nat.mul_comm, Nat.mul_add_div (by omega), Nat.div_eq_of_lt h7, Nat.add_zero]
  have hm : V xs % d = r := by rw [h3, Nat.mul_comm, Nat.mul_add_mod, Nat.mod_eq_of_lt h7]
  refine ⟨a', c', by rw [e1, hq, hm], by rw [hq]; exact e2, e3, ⟨h5.os, h5.tape, h5.output, by simp only [World.putObj_size]; exact h5.size, fun k hk hne => ?_⟩⟩
  rw [World.putObj_heap_other (by omega)]
  exact h5.block k hk hne
set_option maxRecDepth 100000 in
set_option maxHeartbeats 2000000 in
theorem shrink_row (B g cap d : Nat) (xs : List Nat) (w : World) (hx : Lim xs) (hg : B ≤ g) (hcx : cap ≤ maxLen) (hrow : Row 68 w g cap (xs.map u32v)) (lx : xs.length ≤ 1073741824) (hd : 1 ≤ d) (hd2 : d < 4294967296) :
    Calls Tryz.prog 77 #[.slice (some ⟨g, 0, none⟩) xs.length cap, .int .u32 (d : Int)] w (GivesShrink B g xs d w) := by
  have hglt := hrow.lt
  refine (callsIn_wide (n := 3)).1 ?_
  refine callsIn_of_wp_marks Tryz.func77 rfl trivial ?_ rfl
  simp only [Tryz.ntmps77, List.size_toArray, List.length_cons, List.length_nil, Nat.reduceAdd, Nat.reduceSub, Array.replicate_succ, Array.replicate_zero, List.push_toArray, List.append_toArray, List.nil_append, List.cons_append]
  gi_wp2_with fail
  refine ⟨trivial, ?_⟩
  refine (callsIn_wide.2 (back_maker _ _ _ _)).mono ?_
  rintro e w' ⟨rfl, rfl⟩
  gi_wp2_with fail
  refine range_wide (n := 3) (by omega) (gf := 96) (lb := #[.pointer (some ⟨w.heap.size + 3, 0, none⟩)]) (by simp [Act.eval]) (enters_of Tryz.func96 (by kernel_rfl) rfl) (encs := encBack) (fun _ => rfl)
    (Down xs) (fun pre => pre.length = xs.length) (fun _ => True) (ShrkIn w g cap xs d) (fun _ _ _ => False)
    (back_iter _ (by omega) (w.heap.size + 3) cap (some ⟨g, 0, none⟩) xs lx _ ?hI) (shrk_own w g cap xs d _ (by simp; omega)) (fun _ _ _ _ _ hs _ _ => hs) ?h0
    (fun x => { tmps := #[.slice (some ⟨g, 0, none⟩) xs.length cap, .int .u32 (d : Int), .pointer (some ⟨w.heap.size, 0, none⟩), .pointer (some ⟨w.heap.size + 1, 0, none⟩), .slice none 0 0, .int .u32 0, .pointer (some ⟨w.heap.size + 1 + 1, 0, none⟩), .int .i64 (x.1 : Int), .int .u32 (x.2 : Int),
      .slice (some ⟨g, 0, none⟩) xs.length cap, .func (.func 96) #[] #[.pointer (some ⟨w.heap.size + 1 + 1 + 1, 0, none⟩)], .int .i64 (x.1 : Int), .int .u32 (x.2 : Int), undef, undef, undef, undef, undef, undef, undef, undef, undef, undef, undef, undef, undef, undef, undef, undef, undef, undef, undef, undef, undef], defers := [] }) ?assign ?body ?done ?stop
  case hI =>
    rintro pre W ⟨Q, r, k, h1, h2, h3, h4, h5, h6, h7, h8, h9, h10, h11, h12⟩
    refine ⟨by simp [World.cell?, h11], fun i hi => ⟨g, 0, rfl, ?_⟩⟩
    have := h2.cell i _ (map_getElem? (xs := Q) (by omega))
    rw [h5 i (by omega)] at this
    simpa [u32v] using this
  case h0 =>
    refine ⟨xs, 0, xs.length, by simp, (((hrow.alloc _).alloc _).alloc _).alloc _, rfl, hx, fun _ _ => rfl, by simp [V, Rep.val], by omega, ?_, ?_, ?_, ?_, ⟨rfl, rfl, rfl, by simp; omega, fun k hk _ => ?_⟩⟩
    · rw [Below.heap_alloc _ _ _ (by simp; omega), Below.heap_alloc _ _ _ (by simp; omega), Below.heap_alloc _ _ _ (by simp)]
      exact heap_alloc_new w _
    · rw [Below.heap_alloc _ _ _ (by simp), Below.heap_alloc _ _ _ (by simp)]
      simpa using heap_alloc_new (w.alloc (.cells #[.slice (some ⟨g, 0, none⟩) xs.length cap] 23)) (.cells #[.int .u32 (d : Int)] 68)
    · rw [Below.heap_alloc _ _ _ (by simp)]
      simpa using heap_alloc_new ((w.alloc (.cells #[.slice (some ⟨g, 0, none⟩) xs.length cap] 23)).alloc (.cells #[.int .u32 (d : Int)] 68)) (.cells #[.int .u64 0] 79)
    · simpa using heap_alloc_new (((w.alloc (.cells #[.slice (some ⟨g, 0, none⟩) xs.length cap] 23)).alloc (.cells #[.int .u32 (d : Int)] 68)).alloc (.cells #[.int .u64 0] 79)) (.cells #[.slice (some ⟨g, 0, none⟩) xs.length cap] 23)
    · rw [Below.heap_alloc _ _ _ (by simp; omega), Below.heap_alloc _ _ _ (by simp; omega), Below.heap_alloc _ _ _ (by simp; omega), Below.heap_alloc _ _ _ hk]
  case assign =>
    rintro l ⟨i, xv⟩ W K hK
    dsimp only [encBack] at hK ⊢
    gi_wp2
    exact hK
  case body =>
    rintro l pre ⟨i, xv⟩ W hS hT
    obtain ⟨r, q0, hr, hxv, c0, c1, c2, f2, c8, c3, f3, hi, hnext⟩ := hS.step hx hglt hT hd hd2
    simp only at hxv c3 f3 hi hnext
    have hd0 : (((d : Nat) : Int) == 0) = false := by simp; omega
    obtain ⟨T, hor, hTe, hTb⟩ := or_step (r := r) (x := xv) (by omega) hxv
    rw [← hTe] at hnext
    have hq : T / d < 4294967296 := by
      rw [Nat.div_lt_iff_lt_mul (by omega)]
      have : (r + 1) * 4294967296 ≤ d * 4294967296 := Nat.mul_le_mul_right _ (by omega)
      rw [Nat.add_mul, Nat.one_mul] at this
      rw [Nat.mul_comm 4294967296 d]
      omega
    have hqe : (T : Int) / (d : Int) = ((T / d : Nat) : Int) := rfl
    have hq1 : (T : Int) / (d : Int) ≤ 4294967295 := by rw [hqe]; exact Int.ofNat_le.2 (show T / d ≤ 4294967295 by omega)
    have hq0 : 0 ≤ (T : Int) / (d : Int) := by rw [hqe]; exact Int.natCast_nonneg _
    have hdz : ¬ ((d : Int) = 0) := by omega
    have hdz' : ¬ (d = 0) := by omega
    clear hqe
    have HN := Lib.hid hnext
    have C8 := Lib.hid c8
    clear hS hT hnext hTe c8
    have hmx : Tryz.prog.follows .mixedOrders = true := by kernel_rfl
    gi_wp2
    have hwd : IntKind.u64.wrap (d : Int) = (d : Int) := IntWalk.u64_in _ (by omega)
    have hwq : IntKind.u64.wrap ((T : Int) / (d : Int)) = (T : Int) / (d : Int) := IntWalk.u64_in _ (by omega)
    have hwq2 : IntKind.u32.wrap ((T : Int) / (d : Int)) = (T : Int) / (d : Int) := IntWalk.u32_in _ (by omega)
    refine region_tail_in 8 hmx (by kernel_rfl) (by kernel_rfl) (by rintro ⟨_, _, h⟩; exact h) ?_
    simp only [List.take_succ_cons, List.take_zero, List.drop_succ_cons, List.drop_zero]
    repeat still_step
    refine wpStill_nil ?_
    clear hwd hwq hwq2
    go_wp2
    gi_wp2
    exact shrk_round hglt C8.out HN.out
  case done =>
    rintro D ys W hD hys hS hK
    obtain ⟨Q, r, k, h1, h2, h3, h4, h5, h6, h7, h8, h9, h10, h11, h12⟩ := hS
    obtain rfl : k = 0 := by omega
    have c0 : W.cell? ⟨w.heap.size, 0, none⟩ = some (.slice (some ⟨g, 0, none⟩) xs.length cap) := by simp [World.cell?, h8]
    have c2 : W.cell? ⟨w.heap.size + 2, 0, none⟩ = some (.int .u64 (r : Int)) := by simp [World.cell?, h10]
    have hr32 : (r : Int) ≤ 4294967295 := by omega
    have HT := Lib.hid (fun n => trim_same (some ⟨g, 0, none⟩) xs.length cap Q h3 (W.drewN n) (h2.drewN n).reads0 (by have := h2.le; simp at this; omega) hcx)
    have HH := Lib.hid (And.intro h2 (And.intro h3 (And.intro h6 h12)))
    have HK := Lib.hid hK
    clear h1 h2 h3 h5 h6 h8 h9 h10 h11 h12 hys hK
    gi_wp2
    refine wpIn_wide.2 ?_
    go_quiet ((go_at_call 71; exact Calls.quiet_of_same (HT.out _)))
    gi_wp2
    refine ⟨by simp, .inl ⟨_, _, rfl, run_takeDeferred (w := W.drewN nq) HK.out, ?_⟩⟩
    refine ⟨_, results_tmp2 rfl _ _ _, ?_⟩
    exact shrk_done hglt hg hcx h4 h7 (by simp at hD; omega) HH.out.1 HH.out.2.1 HH.out.2.2.1 HH.out.2.2.2
  case stop =>
    rintro D c pre W _ _ h _
    exact h.elim
end Go.Proofs.YtpjeecahaeaajaaGreatDoor

set_option linter.unusedVariables false
set_option linter.unusedSimpArgs false
namespace Go.Proofs.YtpjeecahaeaajaaGreatDoor
open Go.RowKit Rep
attribute [local go_sem] Oper.semAt_some
def GivesInt (v : Int) (w : World) (e : Ending) (w' : World) : Prop := e = .returned (.int .i64 v) ∧ Below w.heap.size w w'
set_option maxRecDepth 100000 in
set_option maxHeartbeats 400000 in
theorem compare_len (ax ay : Option Addr) (n m cx cy : Nat) (w : World) (h : n ≠ m) :
    Calls Tryz.prog 84 #[.slice ax n cx, .slice ay m cy] w (GivesInt (cmpI n m) w) := by
  have hb : ((n : Int) != (m : Int)) = true := by rw [bne_iff_ne]; omega
  have hn : ¬ (n = m) := h
  go_enter Tryz.func84, Tryz.ntmps84
  go_wp2_with fail
  refine (cmpInt_any _ _ _).mono ?_
  rintro e w' ⟨rfl, rfl⟩
  go_wp2_with fail
  exact bodyPost_ret (v := .int .i64 (cmpI n m)) (by simp [results, Tryz.results84, go_sem]) rfl ⟨rfl, ((Below.refl _ _).alloc (Nat.le_refl _) _).alloc (by simp) _⟩
def CmpIn (w : World) (ax ay : Option Addr) (cx cy : Nat) (xs ys : List Nat) (pre : List (Nat × Nat)) (W : World) : Prop :=
  (∀ k, k + pre.length = xs.length → xs.drop k = ys.drop k) ∧
    W.heap[w.heap.size]? = some (.cells #[.slice ay ys.length cy] 23 (0, 0)) ∧ W.heap[w.heap.size + 1]? = some (.cells #[.int .i64 0] 3 (0, 0)) ∧
    W.heap[w.heap.size + 2]? = some (.cells #[.slice ax xs.length cx] 23 (0, 0)) ∧ Below w.heap.size w W
def CmpOut (w : World) (xs ys : List Nat) (c : Code) (W : World) : Prop :=
  c = .ret ∧ W.heap[w.heap.size + 1]? = some (.cells #[.int .i64 (cmpI (V xs) (V ys))] 3 (0, 0)) ∧ Below w.heap.size w W
theorem cmp_own (w : World) (ax ay : Option Addr) (cx cy : Nat) (xs ys : List Nat) (B0 : Nat) (hB : w.heap.size ≤ B0) : OwnFrom B0 (CmpIn w ax ay cx cy xs ys) := by
  intro pre W W' row h hg hr
  obtain ⟨h1, h2, h3, h4, h5⟩ := h
  have kc : ∀ {b : Nat} {c : Array Value} {e : TypeId} {z : Nat × Nat}, W.heap[b]? = some (.cells c e z) → W'.heap[b]? = some (.cells c e z) :=
    fun hb => (grownBy_keeps_cells hg (fun r e => (hr r e).2) hb rfl).trans hb
  exact ⟨h1, kc h2, kc h3, kc h4, h5.grown hg h5.size (fun k e => by have := (hr k e).1; omega)⟩
theorem cmp_own2 (w : World) (xs ys : List Nat) (B0 : Nat) (hB : w.heap.size ≤ B0) (c : Code) : OwnFrom B0 (fun (_ : List (Nat × Nat)) W => CmpOut w xs ys c W) := by
  intro pre W W' row h hg hr
  obtain ⟨h1, h2, h3⟩ := h
  exact ⟨h1, (grownBy_keeps_cells hg (fun r e => (hr r e).2) h2 rfl).trans h2, h3.grown hg h3.size (fun k e => by have := (hr k e).1; omega)⟩
theorem cmp_part {xs ys : List Nat} {i : Nat} (hx : Lim xs) (hy : Lim ys) (hl : ys.length = xs.length) (hi : i < xs.length) (hd : xs.drop (i + 1) = ys.drop (i + 1)) (hne : xs.getD i 0 ≠ ys.getD i 0) :
    cmpI (V xs) (V ys) = cmpI (xs.getD i 0) (ys.getD i 0) := by
  have e1 := val_take_drop 4294967296 i xs (by omega)
  have e2 := val_take_drop 4294967296 i ys (by omega)
  rw [drop_cons _ xs i hi] at e1
  rw [drop_cons _ ys i (by omega), ← hd] at e2
  have b1 := val_lt (hx.take i)
  have b2 := val_lt (hy.take i)
  rw [List.length_take, Nat.min_eq_left (by omega)] at b1 b2
  rw [Nat.mul_add] at e1 e2
  unfold V at *
  have key : ∀ {a b p : Nat}, a < b → p * a + p ≤ p * b := fun {a b p} h => by
    have := Nat.mul_le_mul_left p (show a + 1 ≤ b from h)
    rwa [Nat.mul_add, Nat.mul_one] at this
  rcases Nat.lt_or_gt_of_ne hne with h | h
  · have hk := key (p := 4294967296 ^ i) h
    unfold cmpI
    rw [if_pos (by omega), if_pos (by omega)]
  · have hk := key (p := 4294967296 ^ i) h
    unfold cmpI
    rw [if_neg (by omega), if_neg (by omega), if_neg (by omega), if_neg (by omega)]
theorem drop_same {xs ys : List Nat} {i : Nat} (hi : i < xs.length) (hj : i < ys.length) (hd : xs.drop (i + 1) = ys.drop (i + 1)) (he : xs.getD i 0 = ys.getD i 0) : xs.drop i = ys.drop i := by
  rw [List.drop_eq_getElem_cons hi, List.drop_eq_getElem_cons hj, hd]
  rw [getD_lt hi, getD_lt hj] at he
  rw [he]
set_option maxRecDepth 100000 in
set_option maxHeartbeats 2000000 in
theorem compare_same (ax ay : Option Addr) (cx cy : Nat) (xs ys : List Nat) (w : World) (hx : Lim xs) (hy : Lim ys) (hl : ys.length = xs.length) (rx : Reads w ax (xs.map u32v)) (ry : Reads w ay (ys.map u32v)) (lx : xs.length ≤ 1073741824) :
    Calls Tryz.prog 84 #[.slice ax xs.length cx, .slice ay ys.length cy] w (GivesInt (cmpI (V xs) (V ys)) w) := by
  have hb : ((xs.length : Int) != (ys.length : Int)) = false := by rw [hl]; simp
  have HL := Lib.hid hl
  have hle : xs.length ≤ ys.length := by omega
  clear hl
  refine (callsIn_wide (n := 3)).1 ?_
  refine callsIn_of_wp_marks Tryz.func84 rfl trivial ?_ rfl
  simp only [Tryz.ntmps84, List.size_toArray, List.length_cons, List.length_nil, Nat.reduceAdd, Nat.reduceSub, Array.replicate_succ, Array.replicate_zero, List.push_toArray, List.append_toArray, List.nil_append, List.cons_append]
  gi_wp2_with fail
  refine ⟨trivial, ?_⟩
  refine (callsIn_wide.2 (back_maker _ _ _ _)).mono ?_
  rintro e w' ⟨rfl, rfl⟩
  gi_wp2_with fail
  refine range_wide (n := 3) (by omega) (gf := 96) (lb := #[.pointer (some ⟨w.heap.size + 2, 0, none⟩)]) (by simp [Act.eval]) (enters_of Tryz.func96 (by kernel_rfl) rfl) (encs := encBack) (fun _ => rfl)
    (Down xs) (fun pre => pre.length = xs.length) (fun _ => True) (CmpIn w ax ay cx cy xs ys) (fun c _ W => CmpOut w xs ys c W)
    (back_iter _ (by omega) (w.heap.size + 2) cx ax xs lx _ ?hI) (cmp_own w ax ay cx cy xs ys _ (by simp; omega)) (cmp_own2 w xs ys _ (by simp; omega)) ?h0
    (fun x => { tmps := #[.slice ax xs.length cx, .slice ay ys.length cy, undef, .pointer (some ⟨w.heap.size, 0, none⟩), .pointer (some ⟨w.heap.size + 1, 0, none⟩), .int .i64 (x.1 : Int), .int .u32 (x.2 : Int), .slice ax xs.length cx, .int .i64 (xs.length : Int), .slice ay ys.length cy, .int .i64 (ys.length : Int), .bool false,
      undef, undef, undef, undef, undef, .slice ax xs.length cx, .func (.func 96) #[] #[.pointer (some ⟨w.heap.size + 1 + 1, 0, none⟩)], .int .i64 (x.1 : Int), .int .u32 (x.2 : Int), undef, undef, undef, undef, undef, undef, undef, undef, undef, undef, undef, undef], defers := [] }) ?assign ?body ?done ?stop
  case hI =>
    rintro pre W ⟨h1, h2, h3, h4, h5⟩
    refine ⟨by simp [World.cell?, h4], fun i hi => ?_⟩
    obtain ⟨g, off, rfl, hg, hcell⟩ := rx.open' (by rw [List.length_map]; omega)
    exact ⟨g, off, rfl, (h5.cell (p := ⟨g, off + i, none⟩) hg).trans (hcell i _ (map_getElem? (by omega)))⟩
  case h0 =>
    refine ⟨fun k hk => ?_, ?_, ?_, ?_, (((Below.refl _ _).alloc (Nat.le_refl _) _).alloc (by simp) _).alloc (by simp; omega) _⟩
    · have := HL.out
      simp at hk
      rw [List.drop_of_length_le (by omega), List.drop_of_length_le (by omega)]
    · rw [Below.heap_alloc _ _ _ (by simp; omega), Below.heap_alloc _ _ _ (by simp)]
      exact heap_alloc_new w _
    · rw [Below.heap_alloc _ _ _ (by simp)]
      simpa using heap_alloc_new (w.alloc (.cells #[.slice ay ys.length cy] 23)) (.cells #[.int .i64 0] 3)
    · simpa using heap_alloc_new ((w.alloc (.cells #[.slice ay ys.length cy] 23)).alloc (.cells #[.int .i64 0] 3)) (.cells #[.slice ax xs.length cx] 23)
  case assign =>
    rintro l ⟨i, xv⟩ W K hK
    dsimp only [encBack] at hK ⊢
    gi_wp2
    exact hK
  case body =>
    rintro l pre ⟨i, xv⟩ W hS hT
    obtain ⟨t1, t2, t3⟩ := hT
    simp only at t2 t3
    have hl := HL.out
    obtain ⟨g, off, rfl, hg, hcell⟩ := ry.open' (by rw [List.length_map]; omega)
    have hyi := (hS.2.2.2.2.cell (p := ⟨g, off + i, none⟩) hg).trans (hcell i _ (map_getElem? (by omega)))
    have c0 : W.cell? ⟨w.heap.size, 0, none⟩ = some (.slice (some ⟨g, off, none⟩) ys.length cy) := by simp [World.cell?, hS.2.1]
    have c1 : W.cell? ⟨w.heap.size + 1, 0, none⟩ = some (.int .i64 0) := by simp [World.cell?, hS.2.2.1]
    have f1 : W.frozen? ⟨w.heap.size + 1, 0, none⟩ = false := by simp [World.frozen?, hS.2.2.1]
    have hil : i < ys.length := by omega
    have hd := hS.1 (i + 1) (by omega)
    have hne := cmp_part hx hy hl (i := i) (by omega) hd
    have hds := drop_same (i := i) (by omega) (by omega) hd
    have HS := Lib.hid hS
    have HT := Lib.hid (And.intro t1 t2)
    rw [← t3] at hne hds
    unfold u32v at hyi
    generalize ys.getD i 0 = yv at hyi hne hds
    have HN := Lib.hid hne
    have HD := Lib.hid hds
    clear hS t1 t2 t3 hl hcell hd hne hds
    by_cases hxy : xv = yv
    · subst hxy
      have HD2 := Lib.hid (HD.out rfl)
      clear HD HN
      have hb2 : ((xv : Int) != (xv : Int)) = false := by simp
      gi_wp2
      exact ⟨KeepsFrom.refl _ _, fun k hk => by
        have h2 := HT.out.2
        simp at hk
        obtain rfl : k = i := by omega
        exact HD2.out, HS.out.2⟩
    · have hb2 : ((xv : Int) != (yv : Int)) = true := by rw [bne_iff_ne]; omega
      have HN2 := Lib.hid (HN.out hxy)
      clear HN HD
      gi_wp2_with fail
      refine ⟨trivial, ?_⟩
      refine (CallsIn.inRound l (callsIn_wide.2 (cmpU32_any _ _ _))).mono ?_
      rintro e w' ⟨rfl, rfl⟩
      gi_wp2_with fail
      refine ⟨(KeepsOthers.setCell _ _ _).from _, rfl, ?_, HS.out.2.2.2.2.setCell (p := ⟨w.heap.size + 1, 0, none⟩) (by simp) _⟩
      rw [HN2.out]
      exact set_one _ HS.out.2.2.1
  case done =>
    rintro D zs W hD hys hS hK
    have c1 : W.cell? ⟨w.heap.size + 1, 0, none⟩ = some (.int .i64 0) := by simp [World.cell?, hS.2.2.1]
    have f1 : W.frozen? ⟨w.heap.size + 1, 0, none⟩ = false := by simp [World.frozen?, hS.2.2.1]
    have HS := Lib.hid hS
    have HK := Lib.hid hK
    have HY := Lib.hid hys
    clear hS hK hys
    gi_wp2
    have hD' : w.heap.size + 1 < D := by simp at hD; omega
    have hK' : (W.setCell ⟨w.heap.size + 1, 0, none⟩ (.int .i64 0)).heap[D]? = some (.deferred (some [])) := by
      rw [Below.heap_setCell _ _ _ _ (by simp; omega)]; exact HK.out
    have hr : (W.setCell ⟨w.heap.size + 1, 0, none⟩ (.int .i64 0)).heap[w.heap.size + 1]? = some (.cells #[.int .i64 0] 3 (0, 0)) := set_one _ HS.out.2.2.1
    have hc5 : ((W.setCell ⟨w.heap.size + 1, 0, none⟩ (.int .i64 0)).putObj D (.deferred none)).cell? ⟨w.heap.size + 1, 0, none⟩ = some (.int .i64 0) := by
      simp only [World.cell?]
      rw [World.putObj_heap_other (by omega), hr]
      rfl
    refine ⟨by simp, .inl ⟨_, _, rfl, run_takeDeferred hK', ?_⟩⟩
    refine ⟨.int .i64 0, ?_, ?_, ?_⟩
    · simp [results, Tryz.f84, go_sem, hc5]
    · have h0 := HS.out.1 0 (by have := HY.out; omega)
      rw [List.drop_zero, List.drop_zero] at h0
      rw [h0]
      unfold cmpI
      rw [if_neg (by omega), if_pos rfl]
    · exact (HS.out.2.2.2.2.setCell (p := ⟨w.heap.size + 1, 0, none⟩) (by simp) _).trans (belowK_b (w := w) (Nat.le_refl _) _ D _ _ (by omega) hK' rfl rfl)
  case stop =>
    rintro D c pre W hD _ ⟨rfl, hr, hB⟩ hK
    have hD' : w.heap.size + 1 < D := by simp at hD; omega
    have HR := Lib.hid hr
    clear hr
    gi_wp2
    have hc5 : (W.putObj D (.deferred none)).cell? ⟨w.heap.size + 1, 0, none⟩ = some (.int .i64 (cmpI (V xs) (V ys))) := by
      simp only [World.cell?]
      rw [World.putObj_heap_other (by omega), HR.out]
      rfl
    refine ⟨by simp, .inl ⟨_, _, rfl, run_takeDeferred hK, ?_⟩⟩
    refine ⟨.int .i64 (cmpI (V xs) (V ys)), ?_, rfl, ?_⟩
    · simp [results, Tryz.f84, go_sem, hc5]
    · exact hB.trans (belowK_b (w := w) (Nat.le_refl _) W D _ _ (by omega) hK rfl rfl)
theorem lt_of_len {n m : Nat} (h : (L n).length < (L m).length) : n < m := by
  have h1 : n < 4294967296 ^ (L n).length := (L_len n _).1 (Nat.le_refl _)
  have h2 : ¬ m < 4294967296 ^ (L n).length := fun hm => by have := (L_len m _).2 hm; omega
  omega
theorem cmp_len {n m : Nat} (h : (L n).length ≠ (L m).length) : cmpI (L n).length (L m).length = cmpI n m := by
  unfold cmpI
  rcases Nat.lt_or_gt_of_ne h with h | h
  · have := lt_of_len h
    rw [if_pos (by omega), if_pos (by omega)]
  · have := lt_of_len h
    rw [if_neg (by omega), if_neg (by omega), if_neg (by omega), if_neg (by omega)]
theorem compare_num (ax ay : Option Addr) (cx cy n m : Nat) (w : World) (hx : NumAt w ax cx n) (hy : NumAt w ay cy m) (lx : (L n).length ≤ 1073741824) :
    Calls Tryz.prog 84 #[.slice ax (L n).length cx, .slice ay (L m).length cy] w (GivesInt (cmpI n m) w) := by
  by_cases h : (L n).length = (L m).length
  · have := compare_same ax ay cx cy (L n) (L m) w (L_lim n) (L_lim m) h.symm hx.1 hy.1 lx
    rwa [V_L, V_L] at this
  · have := compare_len ax ay (L n).length (L m).length cx cy w h
    rwa [cmp_len h] at this
theorem cutAt_len (xs : List Nat) (hx : Lim xs) : (L (V xs)).length ≤ xs.length := by
  have hs : strip xs = L (V xs) := strip_eq (by omega) hx
  rw [← hs, strip_length]
  exact cutAt_le _ _
set_option maxRecDepth 100000 in
set_option maxHeartbeats 400000 in
theorem Cmp_any (ax ay : Option Addr) (xs ys : List Nat) (cx cy : Nat) (w : World) (hx : Lim xs) (hy : Lim ys) (rx : Reads w ax (xs.map u32v)) (ry : Reads w ay (ys.map u32v)) (lx : xs.length ≤ 1073741824)
    (hcx : xs.length ≤ cx) (hmx : cx ≤ maxLen) (hcy : ys.length ≤ cy) (hmy : cy ≤ maxLen) :
    Calls Tryz.prog 70 #[.slice ax xs.length cx, .slice ay ys.length cy] w (GivesInt (cmpI (V xs) (V ys)) w) := by
  have hl := cutAt_len xs hx
  go_enter Tryz.func70, Tryz.ntmps70
  go_wp2_with fail
  refine (trim_num ax xs cx w hx rx hcx hmx).mono ?_
  rintro e w' ⟨a1, c1, rfl, n1, rfl⟩
  go_wp2_with fail
  refine (trim_num ay ys cy w hy ry hcy hmy).mono ?_
  rintro e w' ⟨a2, c2, rfl, n2, rfl⟩
  go_wp2_with fail
  refine (compare_num a1 a2 c1 c2 (V xs) (V ys) w n1 n2 (by omega)).mono ?_
  rintro e w' ⟨rfl, hb⟩
  go_wp2_with fail
  go_ret
  exact ⟨rfl, hb⟩
end Go.Proofs.YtpjeecahaeaajaaGreatDoor

set_option linter.unusedVariables false
set_option linter.unusedSimpArgs false
namespace Go.Proofs.YtpjeecahaeaajaaGreatDoor
open Go.RowKit Rep
structure NumIn (w : World) (a : Option Addr) (c : Nat) (xs : List Nat) : Prop where
  lim : Lim xs
  reads : Reads w a (xs.map u32v)
  le : xs.length ≤ c
  cap : c ≤ maxLen
  len : xs.length ≤ 1073741824
theorem NumIn.kept {w w' : World} {a : Option Addr} {c : Nat} {xs : List Nat} (h : NumIn w a c xs) (hb : Below w.heap.size w w') : NumIn w' a c xs := ⟨h.lim, h.reads.kept hb, h.le, h.cap, h.len⟩
theorem NumAt.inn {w : World} {a : Option Addr} {c n : Nat} (h : NumAt w a c n) (hl : (L n).length ≤ 1073741824) : NumIn w a c (L n) := ⟨L_lim n, h.1, h.2.1, h.2.2, hl⟩
theorem GivesOut.zero {b m : Nat} {w w' : World} (h : Bench w' b m false) (hb : w.grownBy w' (some b)) : GivesOut b m false 0 w (.returned (.slice none 0 0)) w' := by
  have ho : outO m false 0 = false := by simp [outO, L_zero]
  exact ⟨none, 0, by simp [outN, ho, L_zero], by simp only [outN, ho]; exact NumAt.zero _, by rw [ho]; exact h, hb⟩
theorem GivesOut.over' {b m n : Nat} {w w' : World} (h : Bench w' b m true) (hn : m < (L n).length) (hb : w.grownBy w' (some b)) : GivesOut b m false n w (.returned (.slice none 0 0)) w' := by
  have ho : outO m false n = true := by simp [outO, hn]
  exact ⟨none, 0, by simp [outN, ho, L_zero], by simp only [outN, ho]; exact NumAt.zero _, by rw [ho]; exact h, hb⟩
theorem grown_refl (w : World) (row : Option Nat) : w.grownBy w row := ⟨rfl, rfl, rfl, Nat.le_refl _, fun _ _ _ => rfl⟩
theorem GivesOut.gone {b m n : Nat} {w : World} (h : Bench w b m true) : GivesOut b m true n w (.returned (.slice none 0 0)) w :=
  ⟨none, 0, by simp [outN, outO, L_zero], by simp only [outN, outO, Bool.true_or, if_true]; exact NumAt.zero w, h, grown_refl _ _⟩
set_option maxRecDepth 100000 in
set_option maxHeartbeats 400000 in
theorem Add_over (b m : Nat) (vx vy : Value) (n : Nat) (w : World) (h : Bench w b m true) :
    Calls Tryz.prog 73 #[.pointer (some ⟨b, 0, none⟩), vx, vy] w (GivesOut b m true n w) := by
  have h1 := h.c1
  have HG := Lib.hid (GivesOut.gone (n := n) h)
  clear h
  go_enter Tryz.func73, Tryz.ntmps73
  go_wp2_with fail
  go_ret
  exact HG.out
set_option maxRecDepth 100000 in
set_option maxHeartbeats 400000 in
theorem Add_any (b m : Nat) (ax ay : Option Addr) (xs ys : List Nat) (cx cy : Nat) (w : World) (o : Bool) (h : Bench w b m o) (hx : NumIn w ax cx xs) (hy : NumIn w ay cy ys) :
    Calls Tryz.prog 73 #[.pointer (some ⟨b, 0, none⟩), .slice ax xs.length cx, .slice ay ys.length cy] w (GivesOut b m o (V xs + V ys) w) := by
  cases o with
  | true => exact Add_over b m _ _ _ w h
  | false =>
    have h1 := h.c1
    have HB := Lib.hid h
    clear h
    go_enter Tryz.func73, Tryz.ntmps73
    go_wp2_with fail
    refine (add_any ax ay xs ys cx cy w hx.lim hy.lim hx.reads hy.reads hx.len hy.len).mono ?_
    rintro e w1 ⟨a, c, rfl, hat, hb⟩
    go_wp2_with fail
    refine (fit_out w w1 b m false a (V xs + V ys) c HB.out hat hb).mono ?_
    rintro e w2 ⟨a', c', rfl, hg⟩
    go_wp2_with fail
    go_ret
    exact ⟨a', c', rfl, hg⟩
theorem len_mul {n m : Nat} (hn : n ≠ 0) (hm : m ≠ 0) : (L n).length + (L m).length - 1 ≤ (L (n * m)).length := by
  have h1 := pow_le_val (b := 4294967296) (rep_top (b := 4294967296) (by omega) n) (fun h => hn ((rep_eq_nil (b := 4294967296) (by omega)).1 h))
  have h2 := pow_le_val (b := 4294967296) (rep_top (b := 4294967296) (by omega) m) (fun h => hm ((rep_eq_nil (b := 4294967296) (by omega)).1 h))
  rw [val_rep (b := 4294967296) (by omega)] at h1 h2
  have h3 := Nat.mul_le_mul h1 h2
  rw [← Nat.pow_add] at h3
  have h4 : ¬ (L (n * m)).length ≤ (L n).length - 1 + ((L m).length - 1) := fun h => by
    have := (L_len (n * m) _).1 h
    unfold L at this
    omega
  have h5 : (L n).length ≠ 0 := fun h => hn (L_len_zero.1 h)
  have h6 : (L m).length ≠ 0 := fun h => hm (L_len_zero.1 h)
  omega
set_option maxRecDepth 100000 in
set_option maxHeartbeats 1000000 in
theorem Mul_any (b m : Nat) (ax ay : Option Addr) (xs ys : List Nat) (cx cy : Nat) (w : World) (o : Bool) (h : Bench w b m o) (hmm : m ≤ maxLen) (hx : NumIn w ax cx xs) (hy : NumIn w ay cy ys) :
    Calls Tryz.prog 57 #[.pointer (some ⟨b, 0, none⟩), .slice ax xs.length cx, .slice ay ys.length cy] w (GivesOut b m o (V xs * V ys) w) := by
  unfold maxLen at hmm
  have h0 := h.c0
  have h1 := h.c1
  have h2 := h.free 1
  have HB := Lib.hid h
  have hlx := cutAt_len xs hx.lim
  have hly := cutAt_len ys hy.lim
  have hxl := hx.len
  have hyl := hy.len
  clear h
  go_enter Tryz.func57, Tryz.ntmps57
  go_wp2_with fail
  refine (trim_num ax xs cx w hx.lim hx.reads hx.le hx.cap).mono ?_
  rintro e w' ⟨a1, c1, rfl, n1, rfl⟩
  go_wp2_with fail
  refine (trim_num ay ys cy w hy.lim hy.reads hy.le hy.cap).mono ?_
  rintro e w' ⟨a2, c2, rfl, n2, rfl⟩
  clear hx hy
  generalize hN : V xs = N at *
  generalize hM : V ys = M at *
  clear hN hM
  have HN := Lib.hid n1
  have HM := Lib.hid n2
  clear n1 n2
  cases o with
  | true =>
    go_wp2_with fail
    go_ret
    exact GivesOut.gone HB.out
  | false =>
    by_cases hz : N = 0
    · subst hz
      rw [L_zero]
      go_wp2_with fail
      go_ret
      rw [Nat.zero_mul]
      exact GivesOut.zero HB.out (grown_refl _ _)
    · have hl1 : (L N).length ≠ 0 := fun h => hz (L_len_zero.1 h)
      have e1 : (((L N).length : Int) == 0) = false := by simp; exact fun h => hl1 (by rw [h]; rfl)
      have g1 : 0 < (L N).length := by omega
      by_cases hz2 : M = 0
      · subst hz2
        rw [L_zero]
        go_wp2_with fail
        go_ret
        rw [Nat.mul_zero]
        exact GivesOut.zero HB.out (grown_refl _ _)
      · have hl2 : (L M).length ≠ 0 := fun h => hz2 (L_len_zero.1 h)
        have e2 : (((L M).length : Int) == 0) = false := by simp; exact fun h => hl2 (by rw [h]; rfl)
        have g2 : 0 < (L M).length := by omega
        have HLM := Lib.hid (len_mul hz hz2)
        clear hl1 hl2
        by_cases hgt : m < (L N).length + (L M).length - 1
        · have hgt' : (m : Int) < ((L N).length : Int) + ((L M).length : Int) - 1 := by omega
          go_wp2_with fail
          go_ret
          exact GivesOut.over' (HB.out.set true) (by have := HLM.out; omega) ⟨rfl, rfl, rfl, by simp [World.setCell], fun k hk hne => Below.heap_setCell _ _ _ _ (by simpa using hne)⟩
        · have hgt' : ¬ (m : Int) < ((L N).length : Int) + ((L M).length : Int) - 1 := by omega
          go_wp2_with fail
          refine (multiply_any a1 a2 (L N) (L M) c1 c2 w (L_lim N) (L_lim M) HN.out.1 HM.out.1 (by omega) (by omega)).mono ?_
          rintro e w1 ⟨a, c, rfl, hat, hb⟩
          rw [V_L, V_L] at hat ⊢
          go_wp2_with fail
          refine (fit_out w w1 b m false a (N * M) c HB.out hat hb).mono ?_
          rintro e w2 ⟨a', c', rfl, hg⟩
          go_wp2_with fail
          go_ret
          exact ⟨a', c', rfl, hg⟩
end Go.Proofs.YtpjeecahaeaajaaGreatDoor

set_option linter.unusedVariables false
set_option linter.unusedSimpArgs false
namespace Go.Proofs.YtpjeecahaeaajaaGreatDoor
open Go.RowKit Rep
set_option maxRecDepth 100000 in
set_option maxHeartbeats 400000 in
theorem takeOff_nil (B : Nat) (ay : Option Addr) (cy : Nat) (w : World) : Calls Tryz.prog 93 #[.slice none 0 0, .slice ay 0 cy] w (GivesTake B none 0 w) := by
  go_enter Tryz.func93, Tryz.ntmps93
  go_wp2_with fail
  go_loop [10] (fun i => i = .int .i64 0) (fun i => (intOf i).toNat)
  case atStart => rfl
  case round =>
    subst hrel
    go_wp2_with fail
    refine (trim_own B none 0 0 [] rfl w (Dig.nil _) (Own.nil _ _)).mono ?_
    rintro e w' ⟨a', c', rfl, ho, ha, rfl⟩
    go_wp2_with fail
    go_ret
    exact ⟨a', c', rfl, ho, ha, grown_refl _ _⟩
theorem takeOff_own (B : Nat) (a ay : Option Addr) (c cy : Nat) (xs ys : List Nat) (w : World) (hx : Lim xs) (hy : Lim ys) (ho : Own B w a c xs) (ry : Reads w ay (ys.map u32v)) (hne : ys.map u32v = [] ∨ ∀ g' off, ay = some ⟨g', off, none⟩ → g' < B)
    (lx : xs.length ≤ 1073741824) (ly : ys.length ≤ xs.length) (hle : V ys ≤ V xs) :
    Calls Tryz.prog 93 #[.slice a xs.length c, .slice ay ys.length cy] w (GivesTake B a (V xs - V ys) w) := by
  obtain ⟨hc, ⟨rfl, rfl, rfl⟩ | ⟨g, rfl, hg, hr⟩⟩ := ho
  · obtain rfl : ys = [] := List.length_eq_zero_iff.1 (by simpa using ly)
    exact takeOff_nil B ay cy w
  · refine takeOff_some B g xs ys c cy ay w hx hy hg hc hr ry ?_ lx ly hle
    rcases hne with hne | hne
    · exact .inl hne
    · exact .inr fun g' off h e => by cases e; have := hne g off h; omega
theorem Reads.old {w : World} {a : Option Addr} {vs : List Value} (h : Reads w a vs) : vs = [] ∨ ∀ g' off, a = some ⟨g', off, none⟩ → g' < w.heap.size := by
  by_cases e : vs = []
  · exact .inl e
  · obtain ⟨g, off, rfl, hg, _⟩ := h.open' (List.length_pos_iff.2 e)
    exact .inr fun g' off' h => by cases h; exact hg
theorem clone_any (a : Option Addr) (c n : Nat) (w : World) (h : NumAt w a c n) (hl : (L n).length ≤ 1073741824) :
    Calls Tryz.prog 76 #[.slice a (L n).length c] w (GivesOwn (L n) w) := by
  cases a with
  | some p => exact clone_some p (L n) c w h.1 hl
  | none =>
    have : L n = [] := by
      rcases h.1 with h1 | ⟨g, off, h1, _⟩
      · simpa using h1
      · cases h1
    rw [this]
    exact clone_nil c w
set_option maxRecDepth 100000 in
set_option maxHeartbeats 1000000 in
theorem Sub_any (b m : Nat) (ax ay : Option Addr) (xs ys : List Nat) (cx cy : Nat) (w : World) (o : Bool) (h : Bench w b m o) (hx : NumIn w ax cx xs) (hy : NumIn w ay cy ys) :
    Calls Tryz.prog 83 #[.pointer (some ⟨b, 0, none⟩), .slice ax xs.length cx, .slice ay ys.length cy] w (GivesOut b m o (V xs - V ys) w) := by
  have h1 := h.c1
  have HB := Lib.hid h
  have hlx := cutAt_len xs hx.lim
  have hly := cutAt_len ys hy.lim
  have hxl := hx.len
  have hyl := hy.len
  clear h
  go_enter Tryz.func83, Tryz.ntmps83
  go_wp2_with fail
  refine (trim_num ax xs cx w hx.lim hx.reads hx.le hx.cap).mono ?_
  rintro e w' ⟨a1, c1, rfl, n1, rfl⟩
  go_wp2_with fail
  refine (trim_num ay ys cy w hy.lim hy.reads hy.le hy.cap).mono ?_
  rintro e w' ⟨a2, c2, rfl, n2, rfl⟩
  clear hx hy
  generalize hN : V xs = N at *
  generalize hM : V ys = M at *
  clear hN hM
  have HN := Lib.hid n1
  have HM := Lib.hid n2
  clear n1 n2
  cases o with
  | true =>
    go_wp2_with fail
    go_ret
    exact GivesOut.gone HB.out
  | false =>
    go_wp2_with fail
    refine (compare_num a1 a2 c1 c2 N M w HN.out HM.out (by omega)).mono ?_
    rintro e w1 ⟨rfl, hb1⟩
    have HB1 := Lib.hid hb1
    clear hb1
    by_cases hlt : N < M
    · have hc : cmpI N M = -1 := by unfold cmpI; rw [if_pos (by omega)]
      rw [hc]
      clear hc
      go_wp2_with fail
      go_ret
      rw [show N - M = 0 from by omega]
      exact GivesOut.zero (HB.out.kept HB1.out) (grown_of_below HB1.out _)
    · have hc : cmpI N M = 0 ∨ cmpI N M = 1 := by
        unfold cmpI
        rw [if_neg (by omega)]
        split
        · exact .inl rfl
        · exact .inr rfl
      have hln : (L M).length ≤ (L N).length := by
        have : ¬ (L N).length < (L M).length := fun h => hlt (lt_of_len h)
        omega
      rcases hc with hc | hc
      all_goals
        rw [hc]
        clear hc
        go_wp2_with fail
        refine (clone_any a1 c1 N w1 (HN.out.kept HB1.out) (by omega)).mono ?_
        rintro e w2 ⟨a3, c3, rfl, ho, hb2⟩
        have HB2 := Lib.hid (HB1.out.trans (hb2.mono HB1.out.size))
        have HO := Lib.hid ho
        clear ho hb2
        go_wp2_with fail
        refine (takeOff_own w1.heap.size a3 a2 c3 c2 (L N) (L M) w2 (L_lim N) (L_lim M) HO.out (HM.out.1.kept HB2.out) ?_ (by omega) hln (by rw [V_L, V_L]; omega)).mono ?_
        · rcases HM.out.1.old with h | h
          · exact .inl h
          · exact .inr fun g off e => Nat.lt_of_lt_of_le (h g off e) HB1.out.size
        rintro e w3 ⟨a4, c4, rfl, ho4, ha4, hg4⟩
        rw [V_L, V_L] at ho4 ⊢
        have hb3 : Below w.heap.size w w3 := HB2.out.grown hg4 HB2.out.size (fun k hk => by
          obtain ⟨_, ⟨rfl, _⟩ | ⟨g, rfl, hg, hr⟩⟩ := HO.out
          · cases hk
          · cases hk; exact Nat.le_trans HB1.out.size hg)
        have HN4 := Lib.hid ho4.num
        clear ho4 ha4 hg4
        go_wp2_with fail
        refine (fit_out w w3 b m false a4 (N - M) c4 HB.out HN4.out hb3).mono ?_
        rintro e w4 ⟨a', c', rfl, hg⟩
        go_wp2_with fail
        go_ret
        exact ⟨a', c', rfl, hg⟩
end Go.Proofs.YtpjeecahaeaajaaGreatDoor

namespace Go.Proofs.YtpjeecahaeaajaaGreatDoor
end Go.Proofs.YtpjeecahaeaajaaGreatDoor
