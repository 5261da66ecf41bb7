/- By program out of: TmOpenN. -/
import Derived.Test.YtmiocohlklnglaaDoorMiaeebp
import Derived.Test.YtmiocohlklnglaaDoorMpjgkim
import Derived.Deep.Slices
import Derived.OpenShut
/-
  Layer 9: nodes that a law is handed, read out of memory; a world for the witnesses.
-/
set_option linter.unusedVariables false
set_option linter.unusedSimpArgs false
namespace Go.Proofs.YtmiocohlklnglaaDoor
open Go.ChangeShapes Go.WideShapes Go.ChangeAt Go.RowKit Tm Rep

noncomputable def laidWorldT (os : Os) : World :=
  let w0 := World.holding Tryd.prog os ⟨#[], #[], []⟩
  { w0 with heap := putCells w0.heap 0 (flat Rows.laid_math_bits_deBruijn32tab) }
set_option maxRecDepth 100000 in
theorem rat_of_trod {H : Type} {enc : TypeId × Value → H} {W : World} {c0 c1 c2 : Value} {fuel : Nat} {x : DataW H × List MemPlace}
    (hf : DataW.trod enc Tryd.prog W 0 (fun _ => true) true fuel 37 [c0, c1, c2] = some x) :
    ∃ s a1 k1 xs a2 k2 ds, c0 = .bool s ∧ c1 = .slice a1 xs.length k1 ∧ c2 = .slice a2 ds.length k2 ∧ HandR W a1 k1 xs a2 k2 ds := by
  obtain ⟨y0, y1, n, hx, _, h0, h1⟩ := trod_struct2 Tryd.underlying37 hf
  have e1 : Tryd.prog.cellsOf 35 = 2 := by kernel_rfl
  have e2 : Tryd.prog.cellsOf 33 = 1 := by kernel_rfl
  have e3 : Tryd.prog.cellsOf 4 = 1 := by kernel_rfl
  simp only [e1, e2, List.drop_zero, List.drop_succ_cons, List.take_succ_cons, List.take_zero] at h0 h1
  obtain ⟨z0, z1, n2, hx2, _, g0, g1⟩ := trod_struct2 Tryd.underlying35 h0
  simp only [e2, e3, List.drop_zero, List.drop_succ_cons, List.take_succ_cons, List.take_zero] at g0 g1
  obtain ⟨s, hs, _⟩ := DataW.trod_bool Tryd.underlying4 g0
  obtain ⟨a1, k1, xs, rfl, hn⟩ := limbs_of_trod Tryd.underlying33 g1
  obtain ⟨a2, k2, ds, rfl, hd⟩ := limbs_of_trod Tryd.underlying33 h1
  simp only [List.cons.injEq, and_true] at hs
  subst hs
  exact ⟨s, a1, k1, xs, a2, k2, ds, rfl, rfl, rfl, hn, hd⟩
set_option maxRecDepth 100000 in
theorem kids_of_trod {H : Type} {enc : TypeId × Value → H} {W : World} {cc : Value} {fuel : Nat} {x : DataW H × List MemPlace}
    (hf : DataW.trod enc Tryd.prog W 0 (fun _ => true) true fuel 22 [cc] = some x) : ∃ a k xs, cc = .slice a xs.length k ∧ KIn W a xs k := by
  rcases open_ints Tryd.underlying22 Tryd.underlying3 (show Tryd.prog.cellsOf 3 = 1 by kernel_rfl) hf with ⟨hcs, hx⟩ | ⟨a, len, cap, zs, hcs, _, hl, hm, hz, hx, hcell, hw⟩
  · simp only [List.cons.injEq, and_true] at hcs
    subst hcs
    exact ⟨none, 0, [], rfl, .inl rfl, by simp, by simp, fun _ => rfl⟩
  · simp only [List.cons.injEq, and_true] at hcs
    subst hcs
    simp only [if_true] at hz
    have hlen : (zs.take len).length = len := by simp; omega
    refine ⟨some a, cap, zs.take len, by rw [hlen], ?_, by rw [hlen]; exact hl, hm, fun e => by cases e⟩
    rcases Nat.eq_zero_or_pos len with h0 | h0
    · subst h0
      exact .inl (by simp)
    · have hsp := World.cell?_spot (hcell 0 (by omega))
      obtain ⟨g, off, sp⟩ := a
      have hsp' : sp = none := by simpa [Addr.add] using hsp
      subst hsp'
      refine .inr ⟨g, off, rfl, fun i u hu => ?_⟩
      simp only [i64s, List.getElem?_map, List.getElem?_take] at hu
      split at hu
      · rename_i hi
        have hlt : i < zs.length := by omega
        rw [List.getElem?_eq_getElem hlt] at hu
        have h := hcell i hlt
        rw [List.getD_eq_getElem?_getD, List.getElem?_eq_getElem hlt] at h
        simp only [Option.map_some, Option.some.injEq] at hu
        rw [← hu]
        rw [show (⟨g, off + i, none⟩ : Addr) = (⟨g, off, none⟩ : Addr).add i by unfold Addr.add; split <;> simp_all]
        simpa only [Option.getD_some] using h
      · simp at hu
set_option maxRecDepth 100000 in
theorem node_of_trod {H : Type} {enc : TypeId × Value → H} {W : World} {cs : List Value} {fuel : Nat} {x : DataW H × List MemPlace}
    (hf : DataW.trod enc Tryd.prog W 0 (fun _ => true) true fuel 39 cs = some x) : ∃ d : HN, cs = d.cells ∧ HandN W d := by
  obtain ⟨xs, m, _, _, hl, hxl, hel⟩ := DataW.trod_struct Tryd.underlying39 hf
  have hlen : cs.length = 6 := hl.trans (show Tryd.prog.cellsOf 39 = 6 by kernel_rfl)
  have e3 : Tryd.prog.cellsOf 3 = 1 := by kernel_rfl
  have e4 : Tryd.prog.cellsOf 22 = 1 := by kernel_rfl
  have e5 : Tryd.prog.cellsOf 37 = 3 := by kernel_rfl
  have hx4 : xs.length = 4 := hxl
  have h0 : DataW.trod enc Tryd.prog W 0 (fun _ => true) true m 3 ((cs.drop 0).take (Tryd.prog.cellsOf 3)) = xs[0]? := hel 0 _ rfl
  have h1 : DataW.trod enc Tryd.prog W 0 (fun _ => true) true m 3 ((cs.drop 1).take (Tryd.prog.cellsOf 3)) = xs[1]? := hel 1 _ rfl
  have h2 : DataW.trod enc Tryd.prog W 0 (fun _ => true) true m 22 ((cs.drop 2).take (Tryd.prog.cellsOf 22)) = xs[2]? := hel 2 _ rfl
  have h3 : DataW.trod enc Tryd.prog W 0 (fun _ => true) true m 37 ((cs.drop 3).take (Tryd.prog.cellsOf 37)) = xs[3]? := hel 3 _ rfl
  rw [List.getElem?_eq_getElem (by omega)] at h0 h1 h2 h3
  match cs, hlen with
  | [c0, c1, c2, c3, c4, c5], _ =>
    simp only [e3, e4, e5, List.drop_zero, List.drop_succ_cons, List.take_succ_cons, List.take_zero] at h0 h1 h2 h3
    obtain ⟨n0, q0, _⟩ := DataW.trod_int Tryd.underlying3 h0
    obtain ⟨n1, q1, _⟩ := DataW.trod_int Tryd.underlying3 h1
    obtain ⟨ka, kc, kids, rfl, hk⟩ := kids_of_trod h2
    obtain ⟨s, a1, k1, ys, a2, k2, ds, rfl, rfl, rfl, hn⟩ := rat_of_trod h3
    simp only [List.cons.injEq, and_true] at q0 q1
    subst q0 q1
    exact ⟨⟨n0, n1, ka, kc, kids, s, a1, k1, ys, a2, k2, ds⟩, rfl, hk, hn⟩
instance : Inhabited HN := ⟨⟨0, 0, none, 0, [], false, none, 0, [], none, 0, []⟩⟩
set_option maxRecDepth 100000 in
/-- Nodes that a law is handed. -/
theorem open_nodes {H : Type} {enc : TypeId × Value → H} {W : World} {base : Nat} {v : Value} {d : DataW H} {ps : List MemPlace}
    (hv : Value.okWide Tryd.prog W .any base 41 v) (h : DataW.Trod enc Tryd.prog W 0 (fun _ => true) true 41 v d ps) :
    ∃ a c ts, v = .slice a (List.length ts) c ∧ NodesIn W a ts ∧ ts.length ≤ c ∧ c ≤ 9223372036854775807 ∧ (a = none → c = 0) := by
  obtain ⟨a0, len0, cap0, rfl⟩ := okWide_slice Tryd.underlying41 hv
  obtain ⟨fuel, hf⟩ := h
  have hf' : DataW.trod enc Tryd.prog W 0 (fun _ => true) true fuel 41 [.slice a0 len0 cap0] = some (d, ps) := hf
  rcases Go.Deep.open_slice Tryd.underlying41 hf' with ⟨hcs, hx⟩ | ⟨a, len, cap, m, n, D, Pl, hcs, _, hl, hm, hmm, hx, hel⟩
  · simp only [List.cons.injEq, and_true, Value.slice.injEq] at hcs
    obtain ⟨rfl, rfl, rfl⟩ := hcs
    exact ⟨none, 0, [], rfl, ⟨.inl rfl, by simp⟩, by simp, by omega, fun _ => rfl⟩
  · simp only [List.cons.injEq, and_true, Value.slice.injEq] at hcs
    obtain ⟨rfl, rfl, rfl⟩ := hcs
    simp only [if_true] at hmm
    have e6 : Tryd.prog.cellsOf 39 = 6 := by kernel_rfl
    rw [e6] at hel
    have hch : ∀ i, i < len0 → ∃ t : HN, (∀ j u, t.cells[j]? = some u → W.cell? ((a.add (i * 6)).add j) = some u) ∧ HandN W t := by
      intro i hi
      obtain ⟨cs', h1, h2⟩ := hel i (by omega)
      obtain ⟨_, h3, h4⟩ := World.cells?_some h1
      obtain ⟨t, rfl, ht⟩ := node_of_trod h2
      refine ⟨t, fun j u hu => ?_, ht⟩
      have hj : j < 6 := by
        have := (List.getElem?_eq_some_iff.1 hu).1
        simpa [HN.cells] using this
      rw [h4 j hj]
      exact hu
    obtain ⟨f, hfs⟩ := Go.Deep.choose_lt hch
    have hlen : ((List.range len0).map f).length = len0 := by simp
    have hcapped : cap0 ≤ 9223372036854775807 := hm
    refine ⟨some a, cap0, (List.range len0).map f, by rw [hlen], ⟨?_, fun p hp => ?_⟩, by rw [hlen]; exact hl, hcapped, fun e => by cases e⟩
    · rcases Nat.eq_zero_or_pos len0 with h0 | h0
      · subst h0
        exact .inl (by simp)
      · have hc0 := (hfs 0 h0).1 0 (.int .i64 (f 0).op) rfl
        have hsp := World.cell?_spot hc0
        obtain ⟨g, off, sp⟩ := a
        have hsp' : sp = none := by simpa [Addr.add] using hsp
        subst hsp'
        refine .inr ⟨g, off, rfl, fun k p hk j u hu => ?_⟩
        obtain ⟨hk1, rfl⟩ : k < len0 ∧ f k = p := by
          rw [List.getElem?_map] at hk
          obtain ⟨i, hi, rfl⟩ := Option.map_eq_some_iff.1 hk
          obtain ⟨hi1, hi2⟩ := List.getElem?_eq_some_iff.1 hi
          simp at hi1 hi2
          subst hi2
          exact ⟨hi1, rfl⟩
        have h := (hfs k hk1).1 j u hu
        rw [Go.Deep.add_add] at h
        rwa [show (⟨g, off + k * 6 + j, none⟩ : Addr) = (⟨g, off, none⟩ : Addr).add (k * 6 + j) by unfold Addr.add; split <;> simp_all [Nat.add_assoc]]
    · obtain ⟨i, hi, rfl⟩ := List.mem_map.1 hp
      exact (hfs i (by simpa using hi)).2
end Go.Proofs.YtmiocohlklnglaaDoor
