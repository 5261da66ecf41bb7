/-
  nat.shrink.
-/
import Derived.Test.YtaiemcacpimcjaaDoorTrimNum
import Derived.Test.YtaiemcacpimcjaaDoorBack
import Derived.Test.YtaiemcacpimcjaaDoorRoundRegion
import Derived.Test.YtaiemcacpimcjaaDoorShr
import Derived.Test.YtaiemcacpimcjaaDoorWord
import Derived.Shelf.RegionOpen
import Derived.Shelf.Abstract
set_option linter.unusedVariables false
set_option linter.unusedSimpArgs false
namespace Go.Proofs.YtaiemcacpimcjaaDoor
open Go.RowKit Rep
attribute [local go_sem] Oper.semAt_some

/-- Behind so many places from above: what is left is r. -/
def ShrkIn (w : World) (g cap : Nat) (xs : List Nat) (d : Nat) (pre : List (Nat × Nat)) (W : World) : Prop :=
  ∃ (Q : List Nat) (r k : Nat), k + pre.length = xs.length ∧ Row 48 W g cap (Q.map u32v) ∧ Q.length = xs.length ∧ Lim Q ∧ (∀ j, j < k → Q.getD j 0 = xs.getD j 0) ∧ V (xs.drop k) = V (Q.drop k) * d + r ∧ r < d ∧
    W.heap[w.heap.size]? = some (.cells #[.slice (some ⟨g, 0, none⟩) xs.length cap] 23 (0, 0)) ∧ W.heap[w.heap.size + 1]? = some (.cells #[.int .u32 (d : Int)] 48 (0, 0)) ∧
    W.heap[w.heap.size + 2]? = some (.cells #[.int .u64 (r : Int)] 55 (0, 0)) ∧ W.heap[w.heap.size + 3]? = some (.cells #[.slice (some ⟨g, 0, none⟩) xs.length cap] 23 (0, 0)) ∧
    w.grownBy W (some g)

theorem shrk_own (w : World) (g cap : Nat) (xs : List Nat) (d B0 : Nat) (hB : w.heap.size ≤ B0) : OwnFrom B0 (ShrkIn w g cap xs d) := by
  intro pre W W' row h hg hr
  obtain ⟨Q, r, k, h1, h2, h3, h4, h5, h6, h7, h8, h9, h10, h11, h12⟩ := h
  have kc : ∀ {b : Nat} {c : Array Value} {e : TypeId} {z : Nat × Nat}, W.heap[b]? = some (.cells c e z) → W'.heap[b]? = some (.cells c e z) :=
    fun hb => (grownBy_keeps_cells hg (fun r e => (hr r e).2) hb rfl).trans hb
  obtain ⟨cur, hc, hrest⟩ := h2
  refine ⟨Q, r, k, h1, ⟨cur, kc hc, hrest⟩, h3, h4, h5, h6, h7, kc h8, kc h9, kc h10, kc h11, ⟨hg.os.trans h12.os, hg.tape.trans h12.tape, hg.output.trans h12.output, Nat.le_trans h12.size hg.size, fun j hj hne => ?_⟩⟩
  have hjW : j < W.heap.size := Nat.lt_of_lt_of_le hj h12.size
  exact (hg.block j hjW (fun e => by have := (hr j e.symm).1; omega)).trans (h12.block j hj hne)

theorem drop_cons (b : Nat) (xs : List Nat) (i : Nat) (h : i < xs.length) : val b (xs.drop i) = xs.getD i 0 + b * val b (xs.drop (i + 1)) := by
  rw [List.drop_eq_getElem_cons h, val_cons, getD_lt h]

theorem ShrkIn.step {w : World} {g cap : Nat} {xs : List Nat} {d : Nat} {pre : List (Nat × Nat)} {W : World} (h : ShrkIn w g cap xs d pre W) (hx : Lim xs) (hg : g < w.heap.size) {x : Nat × Nat} (hT : Down xs pre x) (hd : 1 ≤ d) (hd2 : d < 4294967296) :
    ∃ r q0 : Nat, r < d ∧ x.2 < 4294967296 ∧ W.cell? ⟨w.heap.size, 0, none⟩ = some (.slice (some ⟨g, 0, none⟩) xs.length cap) ∧ W.cell? ⟨w.heap.size + 1, 0, none⟩ = some (.int .u32 (d : Int)) ∧
      W.cell? ⟨w.heap.size + 2, 0, none⟩ = some (.int .u64 (r : Int)) ∧ W.frozen? ⟨w.heap.size + 2, 0, none⟩ = false ∧ W.heap[w.heap.size + 2]? = some (.cells #[.int .u64 (r : Int)] 55 (0, 0)) ∧ W.cell? ⟨g, x.1, none⟩ = some (.int .u32 (q0 : Int)) ∧ W.frozen? ⟨g, x.1, none⟩ = false ∧ x.1 < xs.length ∧
      ∀ W', (∀ k, k ≠ w.heap.size + 2 → k ≠ g → W'.heap[k]? = W.heap[k]?) → W'.heap.size = W.heap.size → W'.os = W.os → W'.tape = W.tape → W'.output = W.output →
        (∀ Q : List Value, Row 48 W g cap Q → Row 48 W' g cap (Q.set x.1 (u32v ((r * 4294967296 + x.2) / d)))) →
        W'.heap[w.heap.size + 2]? = some (.cells #[.int .u64 (((r * 4294967296 + x.2) % d : Nat) : Int)] 55 (0, 0)) → ShrkIn w g cap xs d (pre ++ [x]) W' := by
  obtain ⟨Q, r, k, h1, h2, h3, h4, h5, h6, h7, h8, h9, h10, h11, h12⟩ := h
  obtain ⟨i, xv⟩ := x
  obtain ⟨t1, t2, t3⟩ := hT
  simp only at t2 t3
  obtain rfl : k = i + 1 := by omega
  have hi : i < xs.length := by omega
  have hxv : xv < 4294967296 := by rw [t3]; exact hx.getD _ (by omega)
  refine ⟨r, Q.getD i 0, h7, hxv, by simp [World.cell?, h8], by simp [World.cell?, h9], by simp [World.cell?, h10], by simp [World.frozen?, h10], h10, h2.cell _ _ (map_getElem? (by omega)), h2.frozen _, hi, ?_⟩
  intro W' a1 a2 a3 a4 a5 a6 a7
  have hq : (r * 4294967296 + xv) / d < 4294967296 := by
    rw [Nat.div_lt_iff_lt_mul (by omega)]
    have : (r + 1) * 4294967296 ≤ d * 4294967296 := Nat.mul_le_mul_right _ (by omega)
    rw [Nat.add_mul, Nat.one_mul] at this
    rw [Nat.mul_comm 4294967296 d]
    omega
  refine ⟨Q.set i ((r * 4294967296 + xv) / d), (r * 4294967296 + xv) % d, i, by simp; omega, ?_, by simpa using h3, h4.set _ _ hq, fun j hj => ?_, ?_, Nat.mod_lt _ (by omega), ?_, ?_, a7, ?_, ?_⟩
  · rw [List.map_set]; exact a6 _ h2
  · rw [Rep.getD_set_ne (by omega)]; exact h5 j (by omega)
  · unfold V at h6 ⊢
    rw [drop_cons _ xs i hi, drop_cons _ (Q.set i _) i (by simp; omega), getD_set_self (by omega), List.drop_set, if_pos (by omega), h6, ← t3]
    have hm := Nat.mod_add_div (r * 4294967296 + xv) d
    have e1 : (r * 4294967296 + xv) / d * d = d * ((r * 4294967296 + xv) / d) := Nat.mul_comm _ _
    have e2 : 4294967296 * (val 4294967296 (Q.drop (i + 1)) * d + r) = 4294967296 * val 4294967296 (Q.drop (i + 1)) * d + r * 4294967296 := by
      rw [Nat.mul_add, Nat.mul_assoc, Nat.mul_comm 4294967296 r]
    rw [Nat.add_mul, e1, e2]
    omega
  · rw [a1 _ (by omega) (by omega)]; exact h8
  · rw [a1 _ (by omega) (by omega)]; exact h9
  · rw [a1 _ (by omega) (by omega)]; exact h11
  · exact ⟨a3.trans h12.os, a4.trans h12.tape, a5.trans h12.output, by rw [a2]; exact h12.size, fun j hj hne => by rw [a1 _ (by omega) (by simpa using hne)]; exact h12.block j hj hne⟩

theorem or_step {r x : Nat} (hr : r < 4294967296) (hx : x < 4294967296) :
    ∃ T : Nat, bits BinOp.or IntKind.u64 ((r : Int) * 4294967296) (x : Int) = (T : Int) ∧ T = r * 4294967296 + x ∧ T < 18446744073709551616 := by
  refine ⟨r * 4294967296 + x, ?_, rfl, by omega⟩
  have := u64_or_nat (4294967296 * r) x (by omega) (by omega)
  rw [show (r : Int) * 4294967296 = ((4294967296 * r : Nat) : Int) from by omega, this, Nat.or_comm]
  rw [show 4294967296 = 2 ^ 32 from rfl, or_low (by omega)]
  omega

theorem set_one {w : World} {b : Nat} {u : Value} {e : TypeId} (v : Value) (h : w.heap[b]? = some (.cells #[u] e (0, 0))) : (w.setCell ⟨b, 0, none⟩ v).heap[b]? = some (.cells #[v] e (0, 0)) := by
  simp [World.setCell, Array.getElem?_modify, h]

theorem shrk_round {w W : World} {g cap i r xv d T B0 : Nat} {xs : List Nat} {pre : List (Nat × Nat)} (hg : g < w.heap.size) (h8 : W.heap[w.heap.size + 2]? = some (.cells #[.int .u64 (r : Int)] 55 (0, 0)))
    (hn : ∀ W', (∀ k, k ≠ w.heap.size + 2 → k ≠ g → W'.heap[k]? = W.heap[k]?) → W'.heap.size = W.heap.size → W'.os = W.os → W'.tape = W.tape → W'.output = W.output →
        (∀ Q : List Value, Row 48 W g cap Q → Row 48 W' g cap (Q.set i (u32v (T / d)))) →
        W'.heap[w.heap.size + 2]? = some (.cells #[.int .u64 ((T % d : Nat) : Int)] 55 (0, 0)) → ShrkIn w g cap xs d (pre ++ [(i, xv)]) W') :
    KeepsFrom B0 W (((W.setCell ⟨w.heap.size + 1 + 1, 0, none⟩ (.int .u64 (T : Int))).setCell ⟨g, i, none⟩ (.int .u32 ((T : Int) / (d : Int)))).drew.setCell ⟨w.heap.size + 1 + 1, 0, none⟩ (.int .u64 ((T : Int) % (d : Int)))) ∧
      ShrkIn w g cap xs d (pre ++ [(i, xv)]) (((W.setCell ⟨w.heap.size + 1 + 1, 0, none⟩ (.int .u64 (T : Int))).setCell ⟨g, i, none⟩ (.int .u32 ((T : Int) / (d : Int)))).drew.setCell ⟨w.heap.size + 1 + 1, 0, none⟩ (.int .u64 ((T : Int) % (d : Int)))) := by
  refine ⟨((KeepsOthers.setCell _ _ _).trans ((KeepsOthers.setCell _ _ _).trans ((KeepsOthers.drew _).trans (KeepsOthers.setCell _ _ _)))).from _, hn _ (fun k h1 h2 => ?_) (by simp [World.setCell, World.drew]) rfl rfl rfl (fun Q hQ => ?_) ?_⟩
  · rw [Below.heap_setCell _ _ _ _ (by simpa using h1)]
    show ((W.setCell _ _).setCell _ _).heap[k]? = _
    rw [Below.heap_setCell _ _ _ _ (by simpa using h2), Below.heap_setCell _ _ _ _ (by simpa using h1)]
  · exact (((hQ.other ⟨w.heap.size + 1 + 1, 0, none⟩ _ (by simp; omega)).set i (u32v (T / d))).drew).other ⟨w.heap.size + 1 + 1, 0, none⟩ _ (by simp; omega)
  · have h1 := set_one (.int .u64 (T : Int)) h8
    have h2 : ((W.setCell ⟨w.heap.size + 1 + 1, 0, none⟩ (.int .u64 (T : Int))).setCell ⟨g, i, none⟩ (.int .u32 ((T : Int) / (d : Int)))).drew.heap[w.heap.size + 2]? = some (.cells #[.int .u64 (T : Int)] 55 (0, 0)) := by
      show ((W.setCell _ _).setCell _ _).heap[_]? = _
      rw [Below.heap_setCell _ _ _ _ (by simp; omega)]
      exact h1
    exact set_one _ h2

theorem trim_same (a : Option Addr) (n c : Nat) (xs : List Nat) (hn : xs.length = n) (w : World) (hr : Reads w a (xs.map u32v)) (hc : n ≤ c) (hm : c ≤ maxLen) :
    Calls Tryd.prog 36 #[.slice a n c] w fun e w' => e = .returned (trimV a xs c) ∧ w' = w := by
  subst hn
  exact (trim_any a xs c w hr hc hm).mono fun e w' ⟨h1, h2⟩ => ⟨h1, h2.symm⟩

/-- What shrink gives. -/
def GivesShrink (B g : Nat) (xs : List Nat) (d : Nat) (w : World) (e : Ending) (w' : World) : Prop :=
  ∃ a' c', e = .returned (.tuple #[.slice a' (L (V xs / d)).length c', .int .u32 (V xs % d : Nat)]) ∧
      Own B w' a' c' (L (V xs / d)) ∧ (a' = none ∨ a' = some ⟨g, 0, none⟩) ∧ w.grownBy w' (some g)

theorem shrk_done {w W : World} {B g cap d r D nq : Nat} {xs Q : List Nat} (hglt : g < w.heap.size) (hg : B ≤ g) (hcx : cap ≤ maxLen) (h4 : Lim Q) (h7 : r < d) (hD : w.heap.size ≤ D) (h1 : Row 48 W g cap (Q.map u32v)) (h2 : Q.length = xs.length)
    (h3 : V (xs.drop 0) = V (Q.drop 0) * d + r) (h5 : w.grownBy W (some g)) :
    GivesShrink B g xs d w (.returned (.tuple #[trimV (some ⟨g, 0, none⟩) Q cap, .int .u32 (r : Int)])) ((W.drewN nq).putObj D (.deferred none)) := by
  rw [List.drop_zero, List.drop_zero] at h3
  have hrow : Row 48 ((W.drewN nq).putObj D (.deferred none)) g cap (Q.map u32v) := h1.of_block (World.putObj_heap_other (w := W.drewN nq) (by omega))
  obtain ⟨a', c', e1, e2, e3⟩ := trimV_own h4 (show Own B ((W.drewN nq).putObj D (.deferred none)) (some ⟨g, 0, none⟩) cap Q from ⟨hcx, .inr ⟨g, rfl, hg, hrow⟩⟩)
  have hq : V xs / d = V Q := by rw [h3, Nat.mul_comm, Nat.mul_add_div (by omega), Nat.div_eq_of_lt h7, Nat.add_zero]
  have hm : V xs % d = r := by rw [h3, Nat.mul_comm, Nat.mul_add_mod, Nat.mod_eq_of_lt h7]
  refine ⟨a', c', by rw [e1, hq, hm], by rw [hq]; exact e2, e3, ⟨h5.os, h5.tape, h5.output, by simp only [World.putObj_size]; exact h5.size, fun k hk hne => ?_⟩⟩
  rw [World.putObj_heap_other (by omega)]
  exact h5.block k hk hne

set_option maxRecDepth 100000 in
set_option maxHeartbeats 2000000 in
theorem shrink_row (B g cap d : Nat) (xs : List Nat) (w : World) (hx : Lim xs) (hg : B ≤ g) (hcx : cap ≤ maxLen) (hrow : Row 48 w g cap (xs.map u32v)) (lx : xs.length ≤ 1073741824) (hd : 1 ≤ d) (hd2 : d < 4294967296) :
    Calls Tryd.prog 43 #[.slice (some ⟨g, 0, none⟩) xs.length cap, .int .u32 (d : Int)] w (GivesShrink B g xs d w) := by
  have hglt := hrow.lt
  refine (callsIn_wide (n := 3)).1 ?_
  refine callsIn_of_wp_marks Tryd.func43 rfl trivial ?_ rfl
  simp only [Tryd.ntmps43, List.size_toArray, List.length_cons, List.length_nil, Nat.reduceAdd, Nat.reduceSub, Array.replicate_succ, Array.replicate_zero, List.push_toArray, List.append_toArray, List.nil_append, List.cons_append]
  gi_wp2_with fail
  refine ⟨trivial, ?_⟩
  refine (callsIn_wide.2 (back_maker _ _ _ _)).mono ?_
  rintro e w' ⟨rfl, rfl⟩
  gi_wp2_with fail
  refine range_wide (n := 3) (by omega) (gf := 62) (lb := #[.pointer (some ⟨w.heap.size + 3, 0, none⟩)]) (by simp [Act.eval]) (enters_of Tryd.func62 (by kernel_rfl) rfl) (encs := encBack) (fun _ => rfl)
    (Down xs) (fun pre => pre.length = xs.length) (fun _ => True) (ShrkIn w g cap xs d) (fun _ _ _ => False)
    (back_iter _ (by omega) (w.heap.size + 3) cap (some ⟨g, 0, none⟩) xs lx _ ?hI) (shrk_own w g cap xs d _ (by simp; omega)) (fun _ _ _ _ _ hs _ _ => hs) ?h0
    (fun x => { tmps := #[.slice (some ⟨g, 0, none⟩) xs.length cap, .int .u32 (d : Int), .pointer (some ⟨w.heap.size, 0, none⟩), .pointer (some ⟨w.heap.size + 1, 0, none⟩), .slice none 0 0, .int .u32 0, .pointer (some ⟨w.heap.size + 1 + 1, 0, none⟩), .int .i64 (x.1 : Int), .int .u32 (x.2 : Int),
      .slice (some ⟨g, 0, none⟩) xs.length cap, .func (.func 62) #[] #[.pointer (some ⟨w.heap.size + 1 + 1 + 1, 0, none⟩)], .int .i64 (x.1 : Int), .int .u32 (x.2 : Int), undef, undef, undef, undef, undef, undef, undef, undef, undef, undef, undef, undef, undef, undef, undef, undef, undef, undef, undef, undef, undef], defers := [] }) ?assign ?body ?done ?stop
  case hI =>
    rintro pre W ⟨Q, r, k, h1, h2, h3, h4, h5, h6, h7, h8, h9, h10, h11, h12⟩
    refine ⟨by simp [World.cell?, h11], fun i hi => ⟨g, 0, rfl, ?_⟩⟩
    have := h2.cell i _ (map_getElem? (xs := Q) (by omega))
    rw [h5 i (by omega)] at this
    simpa [u32v] using this
  case h0 =>
    refine ⟨xs, 0, xs.length, by simp, (((hrow.alloc _).alloc _).alloc _).alloc _, rfl, hx, fun _ _ => rfl, by simp [V, Rep.val], by omega, ?_, ?_, ?_, ?_, ⟨rfl, rfl, rfl, by simp; omega, fun k hk _ => ?_⟩⟩
    · rw [Below.heap_alloc _ _ _ (by simp; omega), Below.heap_alloc _ _ _ (by simp; omega), Below.heap_alloc _ _ _ (by simp)]
      exact heap_alloc_new w _
    · rw [Below.heap_alloc _ _ _ (by simp), Below.heap_alloc _ _ _ (by simp)]
      simpa using heap_alloc_new (w.alloc (.cells #[.slice (some ⟨g, 0, none⟩) xs.length cap] 23)) (.cells #[.int .u32 (d : Int)] 48)
    · rw [Below.heap_alloc _ _ _ (by simp)]
      simpa using heap_alloc_new ((w.alloc (.cells #[.slice (some ⟨g, 0, none⟩) xs.length cap] 23)).alloc (.cells #[.int .u32 (d : Int)] 48)) (.cells #[.int .u64 0] 55)
    · simpa using heap_alloc_new (((w.alloc (.cells #[.slice (some ⟨g, 0, none⟩) xs.length cap] 23)).alloc (.cells #[.int .u32 (d : Int)] 48)).alloc (.cells #[.int .u64 0] 55)) (.cells #[.slice (some ⟨g, 0, none⟩) xs.length cap] 23)
    · rw [Below.heap_alloc _ _ _ (by simp; omega), Below.heap_alloc _ _ _ (by simp; omega), Below.heap_alloc _ _ _ (by simp; omega), Below.heap_alloc _ _ _ hk]
  case assign =>
    rintro l ⟨i, xv⟩ W K hK
    dsimp only [encBack] at hK ⊢
    gi_wp2
    exact hK
  case body =>
    rintro l pre ⟨i, xv⟩ W hS hT
    obtain ⟨r, q0, hr, hxv, c0, c1, c2, f2, c8, c3, f3, hi, hnext⟩ := hS.step hx hglt hT hd hd2
    simp only at hxv c3 f3 hi hnext
    have hd0 : (((d : Nat) : Int) == 0) = false := by simp; omega
    obtain ⟨T, hor, hTe, hTb⟩ := or_step (r := r) (x := xv) (by omega) hxv
    rw [← hTe] at hnext
    have hq : T / d < 4294967296 := by
      rw [Nat.div_lt_iff_lt_mul (by omega)]
      have : (r + 1) * 4294967296 ≤ d * 4294967296 := Nat.mul_le_mul_right _ (by omega)
      rw [Nat.add_mul, Nat.one_mul] at this
      rw [Nat.mul_comm 4294967296 d]
      omega
    have hqe : (T : Int) / (d : Int) = ((T / d : Nat) : Int) := rfl
    have hq1 : (T : Int) / (d : Int) ≤ 4294967295 := by rw [hqe]; exact Int.ofNat_le.2 (show T / d ≤ 4294967295 by omega)
    have hq0 : 0 ≤ (T : Int) / (d : Int) := by rw [hqe]; exact Int.natCast_nonneg _
    have hdz : ¬ ((d : Int) = 0) := by omega
    have hdz' : ¬ (d = 0) := by omega
    clear hqe
    have HN := Lib.hid hnext
    have C8 := Lib.hid c8
    clear hS hT hnext hTe c8
    have hmx : Tryd.prog.follows .mixedOrders = true := by kernel_rfl
    gi_wp2
    have hwd : IntKind.u64.wrap (d : Int) = (d : Int) := IntWalk.u64_in _ (by omega)
    have hwq : IntKind.u64.wrap ((T : Int) / (d : Int)) = (T : Int) / (d : Int) := IntWalk.u64_in _ (by omega)
    have hwq2 : IntKind.u32.wrap ((T : Int) / (d : Int)) = (T : Int) / (d : Int) := IntWalk.u32_in _ (by omega)
    refine region_tail_in 8 hmx (by kernel_rfl) (by kernel_rfl) (by rintro ⟨_, _, h⟩; exact h) ?_
    simp only [List.take_succ_cons, List.take_zero, List.drop_succ_cons, List.drop_zero]
    repeat still_step
    refine wpStill_nil ?_
    clear hwd hwq hwq2
    go_wp2
    gi_wp2
    exact shrk_round hglt C8.out HN.out
  case done =>
    rintro D ys W hD hys hS hK
    obtain ⟨Q, r, k, h1, h2, h3, h4, h5, h6, h7, h8, h9, h10, h11, h12⟩ := hS
    obtain rfl : k = 0 := by omega
    have c0 : W.cell? ⟨w.heap.size, 0, none⟩ = some (.slice (some ⟨g, 0, none⟩) xs.length cap) := by simp [World.cell?, h8]
    have c2 : W.cell? ⟨w.heap.size + 2, 0, none⟩ = some (.int .u64 (r : Int)) := by simp [World.cell?, h10]
    have hr32 : (r : Int) ≤ 4294967295 := by omega
    have HT := Lib.hid (fun n => trim_same (some ⟨g, 0, none⟩) xs.length cap Q h3 (W.drewN n) (h2.drewN n).reads0 (by have := h2.le; simp at this; omega) hcx)
    have HH := Lib.hid (And.intro h2 (And.intro h3 (And.intro h6 h12)))
    have HK := Lib.hid hK
    clear h1 h2 h3 h5 h6 h8 h9 h10 h11 h12 hys hK
    gi_wp2
    refine wpIn_wide.2 ?_
    go_quiet ((go_at_call 36; exact Calls.quiet_of_same (HT.out _)))
    gi_wp2
    refine ⟨by simp, .inl ⟨_, _, rfl, run_takeDeferred (w := W.drewN nq) HK.out, ?_⟩⟩
    refine ⟨_, results_tmp2 rfl _ _ _, ?_⟩
    exact shrk_done hglt hg hcx h4 h7 (by simp at hD; omega) HH.out.1 HH.out.2.1 HH.out.2.2.1 HH.out.2.2.2
  case stop =>
    rintro D c pre W _ _ h _
    exact h.elim
end Go.Proofs.YtaiemcacpimcjaaDoor
