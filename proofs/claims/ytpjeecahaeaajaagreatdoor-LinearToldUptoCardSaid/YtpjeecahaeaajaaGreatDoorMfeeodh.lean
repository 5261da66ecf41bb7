/- By program out of: LnOpen. -/
import Derived.Test.YtpjeecahaeaajaaGreatDoorMpjgkim
import Derived.Test.YtpjeecahaeaajaaGreatDoorMcpljib
import Derived.Deep.Slices
import Derived.OpenShut
set_option linter.unusedVariables false
set_option linter.unusedSimpArgs false
namespace Go.Proofs.YtpjeecahaeaajaaGreatDoor
open Go.ChangeShapes Go.WideShapes Go.ChangeAt Go.RowKit Rep Ln
theorem bulk_one {H : Type} (d : DataW H) : 1 ≤ Rows.uptoBulk d := by
 cases d with
 | lit l => cases l <;> simp [Rows.uptoBulk]
 | _ => simp [Rows.uptoBulk]
theorem bulk_in {H : Type} {d : DataW H} : ∀ {l : List (DataW H)}, d ∈ l → Rows.uptoBulk d ≤ Rows.uptoBulkAll l
 | x :: l, h => by
  simp only [Rows.uptoBulkAll]
  rcases List.mem_cons.1 h with rfl | h
  ·omega
  ·have := bulk_in h; omega
theorem bulk_many {H : Type} : ∀ (l : List (DataW H)), l.length ≤ Rows.uptoBulkAll l
 | [] => by simp
 | x :: l => by have h1 := bulk_one x; have h2 := bulk_many l; simp only [Rows.uptoBulkAll, List.length_cons]; omega
theorem bulk_two {H : Type} (x y : DataW H) : Rows.uptoBulk x ≤ Rows.uptoBulk (.agg [x, y]) ∧ Rows.uptoBulk y ≤ Rows.uptoBulk (.agg [x, y]) := by
 simp only [Rows.uptoBulk, Rows.uptoBulkAll]; omega
theorem bulk_row {H : Type} (l r : List (DataW H)) : Rows.uptoBulkAll l ≤ Rows.uptoBulk (.slice l r) := by
 simp only [Rows.uptoBulk]; omega
set_option maxRecDepth 100000 in
theorem limbs_bulk {H : Type} {enc : TypeId × Value → H} {W : World} {t : TypeId} {c : Value} {fuel : Nat} {x : DataW H × List MemPlace}
    (ht : Tryz.prog.underlying t = some (.slice 68)) (hf : DataW.trod enc Tryz.prog W 0 (fun _ => true) true fuel t [c] = some x) :
    ∃ a k xs, c = .slice a (List.length xs) k ∧ Handed W a k xs ∧ xs.length ≤ Rows.uptoBulk x.1 := by
 obtain ⟨a, k, xs, rfl, hh⟩ := limbs_of_trod ht hf
 refine ⟨a, k, xs, rfl, hh, ?_⟩
 rcases open_ints ht Tryz.underlying68 (show Tryz.prog.cellsOf 68 = 1 by kernel_rfl) hf with ⟨hcs, _⟩ | ⟨a', len, cap, zs, hcs, _, hl, _, hz, hx, _, _⟩
 ·simp only [List.cons.injEq, and_true, Value.slice.injEq] at hcs
  omega
 ·simp only [List.cons.injEq, and_true, Value.slice.injEq] at hcs
  simp only [if_true] at hz
  have h1 := bulk_row (H := H) (lits .u32 (zs.take len)) (lits .u32 (zs.drop len))
  have h2 := bulk_many (H := H) (lits .u32 (zs.take len))
  rw [hx]
  dsimp only
  have h3 : (lits (H := H) .u32 (zs.take len)).length = len := by simp [lits]; omega
  omega
set_option maxRecDepth 100000 in
theorem rat_bulk {H : Type} {enc : TypeId × Value → H} {W : World} {c0 c1 c2 : Value} {fuel : Nat} {x : DataW H × List MemPlace}
    (hf : DataW.trod enc Tryz.prog W 0 (fun _ => true) true fuel 27 [c0, c1, c2] = some x) :
    ∃ s a1 k1 xs a2 k2 ds, c0 = .bool s ∧ c1 = .slice a1 (List.length xs) k1 ∧ c2 = .slice a2 (List.length ds) k2 ∧ HandR W a1 k1 xs a2 k2 ds ∧ xs.length ≤ Rows.uptoBulk x.1 ∧ ds.length ≤ Rows.uptoBulk x.1 := by
 obtain ⟨y0, y1, n, rfl, _, h0, h1⟩ := trod_struct2 Tryz.underlying27 hf
 have e1 : Tryz.prog.cellsOf 25 = 2 := by kernel_rfl
 have e2 : Tryz.prog.cellsOf 23 = 1 := by kernel_rfl
 have e3 : Tryz.prog.cellsOf 4 = 1 := by kernel_rfl
 simp only [e1, e2, List.drop_zero, List.drop_succ_cons, List.take_succ_cons, List.take_zero] at h0 h1
 obtain ⟨z0, z1, n2, rfl, _, g0, g1⟩ := trod_struct2 Tryz.underlying25 h0
 simp only [e2, e3, List.drop_zero, List.drop_succ_cons, List.take_succ_cons, List.take_zero] at g0 g1
 obtain ⟨s, hs, _⟩ := DataW.trod_bool Tryz.underlying4 g0
 obtain ⟨a1, k1, xs, rfl, hn, bn⟩ := limbs_bulk Tryz.underlying23 g1
 obtain ⟨a2, k2, ds, rfl, hd, bd⟩ := limbs_bulk Tryz.underlying23 h1
 simp only [List.cons.injEq, and_true] at hs
 subst hs
 have b1 := bulk_two z0.1 z1.1
 have b2 := bulk_two (.agg [z0.1, z1.1]) y1.1
 exact ⟨s, a1, k1, xs, a2, k2, ds, rfl, rfl, rfl, ⟨hn, hd⟩, by dsimp only; omega, by dsimp only; omega⟩
theorem list4 {l : List Value} (h : l.length = 4) : ∃ x0 x1 x2 x3, l = [x0, x1, x2, x3] := by
 match l, h with
 | [x0, x1, x2, x3], _ => exact ⟨x0, x1, x2, x3, rfl⟩
set_option maxRecDepth 100000 in
theorem mono_bulk {H : Type} {enc : TypeId × Value → H} {W : World} {cs : List Value} {fuel : Nat} {x : DataW H × List MemPlace}
    (hf : DataW.trod enc Tryz.prog W 0 (fun _ => true) true fuel 51 cs = some x) : ∃ d : HM, cs = d.cells ∧ HandR W d.a1 d.c1 d.xs d.a2 d.c2 d.ds ∧ d.xs.length ≤ Rows.uptoBulk x.1 ∧ d.ds.length ≤ Rows.uptoBulk x.1 := by
 obtain ⟨y0, y1, n, rfl, hl, h0, h1⟩ := trod_struct2 Tryz.underlying51 hf
 obtain ⟨c0, c1, c2, c3, rfl⟩ := list4 (hl.trans (show Tryz.prog.cellsOf 51 = 4 by kernel_rfl))
 have e1 : Tryz.prog.cellsOf 3 = 1 := by kernel_rfl
 have e2 : Tryz.prog.cellsOf 27 = 3 := by kernel_rfl
 simp only [e1, e2, List.drop_zero, List.drop_succ_cons, List.take_succ_cons, List.take_zero] at h0 h1
 obtain ⟨v, q0, _⟩ := DataW.trod_int Tryz.underlying3 h0
 obtain ⟨s, a1, k1, xs, a2, k2, ds, rfl, rfl, rfl, hh, b1, b2⟩ := rat_bulk h1
 simp only [List.cons.injEq, and_true] at q0
 subst q0
 have b3 := bulk_two y0.1 y1.1
 exact ⟨⟨v, s, a1, k1, xs, a2, k2, ds⟩, rfl, hh, by dsimp only; omega, by dsimp only; omega⟩
instance : Inhabited HM := ⟨⟨0, false, none, 0, [], none, 0, []⟩⟩
set_option maxRecDepth 100000 in
theorem monos_bulk {H : Type} {enc : TypeId × Value → H} {W : World} {c : Value} {fuel : Nat} {x : DataW H × List MemPlace}
    (hf : DataW.trod enc Tryz.prog W 0 (fun _ => true) true fuel 28 [c] = some x) (hb : Rows.uptoBulk x.1 ≤ 2000000) : ∃ a k hs, c = .slice a (List.length hs) k ∧ HMs W a hs := by
 rcases Go.Deep.open_slice Tryz.underlying28 hf with ⟨hcs, _⟩ | ⟨a, len, cap, m, n, D, Pl, hcs, _, hl, hm, hmm, hx, hel⟩
 ·simp only [List.cons.injEq, and_true] at hcs
  subst hcs
  exact ⟨none, 0, [], rfl, ⟨.inl rfl, by simp⟩⟩
 ·simp only [List.cons.injEq, and_true] at hcs
  subst hcs
  simp only [if_true] at hmm
  rw [hx] at hb
  have e4 : Tryz.prog.cellsOf 51 = 4 := by kernel_rfl
  rw [e4] at hel
  have hch : ∀ i, i < len → ∃ t : HM, (∀ j u, t.cells[j]? = some u → W.cell? ((a.add (i * 4)).add j) = some u) ∧ HandR W t.a1 t.c1 t.xs t.a2 t.c2 t.ds ∧ t.xs.length ≤ 2000000 ∧ t.ds.length ≤ 2000000 := by
   intro i hi
   obtain ⟨cs', h1, h2⟩ := hel i (by omega)
   obtain ⟨_, h3, h4⟩ := World.cells?_some h1
   obtain ⟨t, rfl, ht, b1, b2⟩ := mono_bulk h2
   have b3 := bulk_in (List.mem_map.2 ⟨i, List.mem_range.2 hi, rfl⟩ : D i ∈ (List.range len).map D)
   have b4 := bulk_row ((List.range len).map D) ((List.range (m - len)).map fun j => D (len + j))
   refine ⟨t, fun j u hu => ?_, ht, by dsimp only at b1 hb ⊢; omega, by dsimp only at b2 hb ⊢; omega⟩
   have hj : j < 4 := by
    have := (List.getElem?_eq_some_iff.1 hu).1
    simpa [HM.cells] using this
   rw [h4 j hj]
   exact hu
  obtain ⟨f, hfs⟩ := Go.Deep.choose_lt hch
  have hlen : ((List.range len).map f).length = len := by simp
  refine ⟨some a, cap, (List.range len).map f, by rw [hlen], ⟨?_, fun p hp => ?_⟩⟩
  ·rcases Nat.eq_zero_or_pos len with h0 | h0
   ·subst h0
    exact .inl (by simp)
   ·have hc0 := (hfs 0 h0).1 0 (.int .i64 (f 0).v) rfl
    have hsp := World.cell?_spot hc0
    obtain ⟨g, off, sp⟩ := a
    have hsp' : sp = none := by simpa [Addr.add] using hsp
    subst hsp'
    refine .inr ⟨g, off, rfl, fun k p hk j u hu => ?_⟩
    obtain ⟨hk1, rfl⟩ : k < len ∧ f k = p := by
     rw [List.getElem?_map] at hk
     obtain ⟨i, hi, rfl⟩ := Option.map_eq_some_iff.1 hk
     obtain ⟨hi1, hi2⟩ := List.getElem?_eq_some_iff.1 hi
     simp at hi1 hi2
     subst hi2
     exact ⟨hi1, rfl⟩
    have h := (hfs k hk1).1 j u hu
    rw [Go.Deep.add_add] at h
    rw [Nat.add_assoc]
    rwa [show (⟨g, off + (k * 4 + j), none⟩ : Addr) = (⟨g, off, none⟩ : Addr).add (k * 4 + j) by unfold Addr.add; split <;> simp_all]
  ·obtain ⟨i, hi, rfl⟩ := List.mem_map.1 hp
   exact (hfs i (by simpa using hi)).2
theorem array4 {a : Array Value} (h : a.size = 4) : ∃ x y z u, a = #[x, y, z, u] := by
 obtain ⟨l⟩ := a
 match l, h with
 | [x, y, z, u], _ => exact ⟨x, y, z, u, rfl⟩
set_option maxRecDepth 100000 in
theorem open_poly {H : Type} {enc : TypeId × Value → H} {W : World} {base : Nat} {v : Value} {d : DataW H} {ps : List MemPlace}
    (hv : Value.okWide Tryz.prog W .any base 30 v) (h : DataW.Trod enc Tryz.prog W 0 (fun _ => true) true 30 v d ps) (hb : Rows.uptoBulk d ≤ 2000000) :
    ∃ s a1 c1 xs a2 c2 ds a cp hs, v = .agg #[.bool s, .slice a1 (List.length xs) c1, .slice a2 (List.length ds) c2, .slice a (List.length hs) cp] ∧ HandPo W ⟨s, a1, c1, xs, a2, c2, ds, a, cp, hs⟩ := by
 obtain ⟨cs, rfl, hsz⟩ := okWide_struct Tryz.underlying30 hv
 obtain ⟨c0, c1, c2, c3, rfl⟩ := array4 (hsz.trans (show Tryz.prog.cellsOf 30 = 4 by kernel_rfl))
 obtain ⟨fuel, hf⟩ := h
 obtain ⟨y0, y1, n, hx, _, h0, h1⟩ := trod_struct2 Tryz.underlying30 hf
 have e1 : Tryz.prog.cellsOf 27 = 3 := by kernel_rfl
 have e2 : Tryz.prog.cellsOf 28 = 1 := by kernel_rfl
 simp only [Value.cells, e1, e2, List.drop_zero, List.drop_succ_cons, List.take_succ_cons, List.take_zero] at h0 h1
 simp only [Prod.mk.injEq] at hx
 obtain ⟨rfl, -⟩ := hx
 have b1 := bulk_two y0.1 y1.1
 obtain ⟨s, a1, k1, xs, a2, k2, ds, rfl, rfl, rfl, hh, b2, b3⟩ := rat_bulk h0
 obtain ⟨a, cp, hs, rfl, hm⟩ := monos_bulk h1 (by omega)
 exact ⟨s, a1, k1, xs, a2, k2, ds, a, cp, hs, rfl, ⟨hh, by dsimp only; omega, by dsimp only; omega, hm⟩⟩
set_option maxRecDepth 100000 in
theorem open_ratB {H : Type} {enc : TypeId × Value → H} {W : World} {base : Nat} {v : Value} {d : DataW H} {ps : List MemPlace}
    (hv : Value.okWide Tryz.prog W .any base 27 v) (h : DataW.Trod enc Tryz.prog W 0 (fun _ => true) true 27 v d ps) (hb : Rows.uptoBulk d ≤ 2000000) :
    ∃ s a1 c1 xs a2 c2 ds, v = .agg #[.bool s, .slice a1 (List.length xs) c1, .slice a2 (List.length ds) c2] ∧ HandPo W ⟨s, a1, c1, xs, a2, c2, ds, none, 0, []⟩ := by
 obtain ⟨cs, rfl, hsz⟩ := okWide_struct Tryz.underlying27 hv
 obtain ⟨c0, c1, c2, rfl⟩ := array3' (hsz.trans (show Tryz.prog.cellsOf 27 = 3 by kernel_rfl))
 obtain ⟨fuel, hf⟩ := h
 have hf' : DataW.trod enc Tryz.prog W 0 (fun _ => true) true fuel 27 [c0, c1, c2] = some (d, ps) := hf
 obtain ⟨s, a1, k1, xs, a2, k2, ds, rfl, rfl, rfl, hh, b1, b2⟩ := rat_bulk hf'
 exact ⟨s, a1, k1, xs, a2, k2, ds, rfl, ⟨hh, by dsimp only at b1 ⊢; omega, by dsimp only at b2 ⊢; omega, ⟨.inl rfl, by simp⟩⟩⟩
theorem upto_all {H : Type} {l : List (DataW H)} (h : Rows.uptoSmall H l = true) : Rows.uptoBulkAll l ≤ 1048576 := of_decide_eq_true h
theorem trodAll_five12 {H : Type} {enc : TypeId × Value → H} {P : Program} {w : World} {base : Nat} {spare : Nat → Bool} {held : Bool} {t0 t1 t2 t3 t4 : TypeId} {args : Array Value} {ds : List (DataW H)} {ps : List MemPlace} (h : DataW.TrodAll enc P w base spare held [t0, t1, t2, t3, t4] args.toList ds ps) :
    ∃ v0 v1 v2 v3 v4 d0 d1 d2 d3 d4 p0 p1 p2 p3 p4, args = #[v0, v1, v2, v3, v4] ∧ ds = [d0, d1, d2, d3, d4] ∧ ps = p0 ++ (p1 ++ (p2 ++ (p3 ++ p4))) ∧ DataW.Trod enc P w base spare held t0 v0 d0 p0 ∧ DataW.Trod enc P w base spare held t1 v1 d1 p1 ∧ DataW.Trod enc P w base spare held t2 v2 d2 p2 ∧ DataW.Trod enc P w base spare held t3 v3 d3 p3 ∧ DataW.Trod enc P w base spare held t4 v4 d4 p4 := by
 obtain ⟨v0, w0, d0, e0, p0, q0, hargs, rfl, rfl, h0, r0⟩ := trodAll_cons h
 obtain ⟨v1, w1, d1, e1, p1, q1, rfl, rfl, rfl, h1, r1⟩ := trodAll_cons r0
 obtain ⟨v2, w2, d2, e2, p2, q2, rfl, rfl, rfl, h2, r2⟩ := trodAll_cons r1
 obtain ⟨v3, w3, d3, e3, p3, q3, rfl, rfl, rfl, h3, r3⟩ := trodAll_cons r2
 obtain ⟨v4, w4, d4, e4, p4, q4, rfl, rfl, rfl, h4, r4⟩ := trodAll_cons r3
 obtain ⟨rfl, rfl, rfl⟩ := trodAll_nil r4
 exact ⟨v0, v1, v2, v3, v4, d0, d1, d2, d3, d4, p0, p1, p2, p3, p4, by cases args; simp_all, rfl, by simp, h0, h1, h2, h3, h4⟩
noncomputable def laidWorldL (os : Os) : World :=
 let w0 := World.holding Tryz.prog os ⟨#[], #[], []⟩
 let h := putCells w0.heap 3 (flat Rows.laid_math_bits_deBruijn32tab)
 let h := putCells h 1 (flat Rows.laid_unicode_utf8_acceptRanges)
 let h := putCells h 0 (flat Rows.laid_unicode_utf8_first)
 { w0 with heap := h }
end Go.Proofs.YtpjeecahaeaajaaGreatDoor
