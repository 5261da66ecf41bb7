/- By program out of: PkOpen, PkOpenB. -/
import Derived.Test.YtodedlnpokagfaaDoorMkfefhd
import Derived.Test.YtodedlnpokagfaaDoorMpjgkim
import Derived.Test.YtodedlnpokagfaaDoorCards
import Derived.Test.YtodedlnpokagfaaDoorTie
import Derived.Deep.Slices
import Derived.OpenShut
import Derived.Lib.LaidIn
/-
  Layer 4: things that a law is handed, read out of memory; a world for the witnesses.
-/
set_option linter.unusedVariables false
set_option linter.unusedSimpArgs false
namespace Go.Proofs.YtodedlnpokagfaaDoor
open Go.ChangeShapes Go.WideShapes Go.ChangeAt Go.RowKit Rep

noncomputable def laidWorldT (os : Os) : World :=
  let w0 := World.holding Tryd.prog os ⟨#[], #[], []⟩
  { w0 with heap := putCells w0.heap 0 (flat Rows.laid_math_bits_deBruijn32tab) }
set_option maxRecDepth 100000 in
theorem rat_of_trod {H : Type} {enc : TypeId × Value → H} {W : World} {c0 c1 c2 : Value} {fuel : Nat} {x : DataW H × List MemPlace}
    (hf : DataW.trod enc Tryd.prog W 0 (fun _ => true) true fuel 36 [c0, c1, c2] = some x) :
    ∃ s a1 k1 xs a2 k2 ds, c0 = .bool s ∧ c1 = .slice a1 (List.length xs) k1 ∧ c2 = .slice a2 (List.length ds) k2 ∧ HandR W a1 k1 xs a2 k2 ds := by
  obtain ⟨y0, y1, n, hx, _, h0, h1⟩ := trod_struct2 Tryd.underlying36 hf
  have e1 : Tryd.prog.cellsOf 34 = 2 := by kernel_rfl
  have e2 : Tryd.prog.cellsOf 32 = 1 := by kernel_rfl
  have e3 : Tryd.prog.cellsOf 4 = 1 := by kernel_rfl
  simp only [e1, e2, List.drop_zero, List.drop_succ_cons, List.take_succ_cons, List.take_zero] at h0 h1
  obtain ⟨z0, z1, n2, hx2, _, g0, g1⟩ := trod_struct2 Tryd.underlying34 h0
  simp only [e2, e3, List.drop_zero, List.drop_succ_cons, List.take_succ_cons, List.take_zero] at g0 g1
  obtain ⟨s, hs, _⟩ := DataW.trod_bool Tryd.underlying4 g0
  obtain ⟨a1, k1, xs, rfl, hn⟩ := limbs_of_trod Tryd.underlying32 g1
  obtain ⟨a2, k2, ds, rfl, hd⟩ := limbs_of_trod Tryd.underlying32 h1
  simp only [List.cons.injEq, and_true] at hs
  subst hs
  exact ⟨s, a1, k1, xs, a2, k2, ds, rfl, rfl, rfl, hn, hd⟩
set_option maxRecDepth 100000 in
theorem dlt_of_trod {H : Type} {enc : TypeId × Value → H} {W : World} {c0 c1 c2 c3 c4 c5 : Value} {fuel : Nat} {x : DataW H × List MemPlace}
    (hf : DataW.trod enc Tryd.prog W 0 (fun _ => true) true fuel 38 [c0, c1, c2, c3, c4, c5] = some x) : ∃ d : HD, [c0, c1, c2, c3, c4, c5] = [.bool d.s, .slice d.a1 d.xs.length d.c1, .slice d.a2 d.ds.length d.c2, .bool d.t, .slice d.b1 d.ys.length d.e1, .slice d.b2 d.es.length d.e2] ∧ HandD W d := by
  obtain ⟨y0, y1, n, hx, _, h0, h1⟩ := trod_struct2 Tryd.underlying38 hf
  have e1 : Tryd.prog.cellsOf 36 = 3 := by kernel_rfl
  simp only [e1, List.drop_zero, List.drop_succ_cons, List.take_succ_cons, List.take_zero] at h0 h1
  obtain ⟨s, a1, k1, xs, a2, k2, ds, rfl, rfl, rfl, g0⟩ := rat_of_trod h0
  obtain ⟨t, b1, j1, ys, b2, j2, es, rfl, rfl, rfl, g1⟩ := rat_of_trod h1
  exact ⟨⟨s, a1, k1, xs, a2, k2, ds, t, b1, j1, ys, b2, j2, es⟩, rfl, g0, g1⟩
set_option maxRecDepth 100000 in
/-- Numbers of any kind inside what a law is handed. -/
theorem nums_of_trod {H : Type} {enc : TypeId × Value → H} {W : World} {t e : TypeId} {k : IntKind} {g : Nat → Value} {fz : Int → Nat} {B : Nat} {cc : Value} {fuel : Nat} {x : DataW H × List MemPlace}
    (ht : Tryd.prog.underlying t = some (.slice e)) (he : Tryd.prog.underlying e = some (.int k)) (hc : Tryd.prog.cellsOf e = 1) (hg : ∀ z, (Lit.int k z).wf = true → g (fz z) = .int k z ∧ fz z < B)
    (hf : DataW.trod enc Tryd.prog W 0 (fun _ => true) true fuel t [cc] = some x) :
    ∃ a c xs, cc = .slice a (List.length xs) c ∧ Reads W a (xs.map g) ∧ (∀ m ∈ xs, m < B) ∧ xs.length ≤ c ∧ c ≤ maxLen := by
  rcases open_ints ht he hc hf with ⟨hcs, hx⟩ | ⟨a, len, cap, zs, hcs, _, hl, hm, hz, hx, hcell, hw⟩
  · simp only [List.cons.injEq, and_true] at hcs
    subst hcs
    exact ⟨none, 0, [], rfl, .inl rfl, by simp, by simp, by simp [maxLen]⟩
  · simp only [List.cons.injEq, and_true] at hcs
    subst hcs
    simp only [if_true] at hz
    have hlen : ((zs.take len).map fz).length = len := by simp; omega
    refine ⟨some a, cap, (zs.take len).map fz, by rw [hlen], ?_, fun m hm => ?_, by rw [hlen]; exact hl, hm⟩
    · rcases Nat.eq_zero_or_pos len with h0 | h0
      · subst h0
        exact .inl (by simp)
      · have hsp := World.cell?_spot (hcell 0 (by omega))
        obtain ⟨gg, off, sp⟩ := a
        have hsp' : sp = none := by simpa [Addr.add] using hsp
        subst hsp'
        refine .inr ⟨gg, off, rfl, fun i u hu => ?_⟩
        rw [List.map_map, List.getElem?_map, List.getElem?_take] at hu
        split at hu
        · rename_i hi
          have hlt : i < zs.length := by omega
          rw [List.getElem?_eq_getElem hlt] at hu
          have h := hcell i hlt
          rw [List.getD_eq_getElem?_getD, List.getElem?_eq_getElem hlt] at h
          have hgz := (hg zs[i] (hw _ (List.getElem_mem hlt))).1
          simp only [Option.map_some, Option.some.injEq, Function.comp, hgz] at hu
          rw [← hu]
          rw [show (⟨gg, off + i, none⟩ : Addr) = (⟨gg, off, none⟩ : Addr).add i by unfold Addr.add; split <;> simp_all]
          simpa only [Option.getD_some] using h
        · simp at hu
    · obtain ⟨z, hzm, rfl⟩ := List.mem_map.1 hm
      exact (hg z (hw z (List.mem_of_mem_take hzm))).2
theorem wf_i64 {z : Int} (h : (Lit.int .i64 z).wf = true) : -9223372036854775808 ≤ z ∧ z ≤ 9223372036854775807 := by
  have e1 : IntKind.i64.min = -9223372036854775808 := rfl
  have e2 : IntKind.i64.max = 9223372036854775807 := rfl
  simpa [Lit.wf, e1, e2] using h
theorem wf_u8 {z : Int} (h : (Lit.int .u8 z).wf = true) : 0 ≤ z ∧ z ≤ 255 := by
  have e1 : IntKind.u8.min = 0 := rfl
  have e2 : IntKind.u8.max = 255 := rfl
  simpa [Lit.wf, e1, e2] using h
theorem byte_of_trod {H : Type} {enc : TypeId × Value → H} {W : World} {cc : Value} {fuel : Nat} {x : DataW H × List MemPlace}
    (hf : DataW.trod enc Tryd.prog W 0 (fun _ => true) true fuel 22 [cc] = some x) :
    ∃ a c xs, cc = .slice a (List.length xs) c ∧ Reads W a (xs.map u8v) ∧ Pk.Byt xs ∧ xs.length ≤ c ∧ c ≤ maxLen :=
  nums_of_trod (g := u8v) (fz := Int.toNat) (B := 256) Tryd.underlying22 Tryd.underlying5 (by kernel_rfl) (fun z hz => by
    have := wf_u8 hz
    refine ⟨?_, by omega⟩
    unfold u8v
    congr 1
    omega) hf
theorem list_of_trod {H : Type} {enc : TypeId × Value → H} {W : World} {cc : Value} {fuel : Nat} {x : DataW H × List MemPlace}
    (hf : DataW.trod enc Tryd.prog W 0 (fun _ => true) true fuel 39 [cc] = some x) :
    ∃ a c xs, cc = .slice a (List.length xs) c ∧ Reads W a (xs.map n64v) ∧ (∀ m ∈ xs, m < 18446744073709551616) ∧ xs.length ≤ c ∧ c ≤ maxLen :=
  nums_of_trod (g := n64v) (fz := Pk.uN) (B := 18446744073709551616) Tryd.underlying39 Tryd.underlying3 (by kernel_rfl) (fun z hz => by
    have := wf_i64 hz
    refine ⟨?_, Pk.uN_lt z⟩
    unfold n64v
    rw [Pk.iN_uN this.1 this.2]) hf
theorem list10 {l : List Value} (h : l.length = 10) : ∃ x0 x1 x2 x3 x4 x5 x6 x7 x8 x9, l = [x0, x1, x2, x3, x4, x5, x6, x7, x8, x9] := by
  match l, h with
  | [x0, x1, x2, x3, x4, x5, x6, x7, x8, x9], _ => exact ⟨x0, x1, x2, x3, x4, x5, x6, x7, x8, x9, rfl⟩
set_option maxRecDepth 100000 in
theorem thing_of_trod {H : Type} {enc : TypeId × Value → H} {W : World} {cs : List Value} {fuel : Nat} {x : DataW H × List MemPlace}
    (hf : DataW.trod enc Tryd.prog W 0 (fun _ => true) true fuel 41 cs = some x) : ∃ d : TD, cs = d.vals ∧ HandT W d := by
  obtain ⟨xs, m, _, _, hl, hxl, hel⟩ := DataW.trod_struct Tryd.underlying41 hf
  have hlen : cs.length = 10 := hl.trans (show Tryd.prog.cellsOf 41 = 10 by kernel_rfl)
  have e3 : Tryd.prog.cellsOf 3 = 1 := by kernel_rfl
  have e4 : Tryd.prog.cellsOf 39 = 1 := by kernel_rfl
  have e5 : Tryd.prog.cellsOf 38 = 6 := by kernel_rfl
  have e6 : Tryd.prog.cellsOf 22 = 1 := by kernel_rfl
  have hx5 : xs.length = 5 := hxl
  have h0 : DataW.trod enc Tryd.prog W 0 (fun _ => true) true m 3 ((cs.drop 0).take (Tryd.prog.cellsOf 3)) = xs[0]? := hel 0 _ rfl
  have h1 : DataW.trod enc Tryd.prog W 0 (fun _ => true) true m 3 ((cs.drop 1).take (Tryd.prog.cellsOf 3)) = xs[1]? := hel 1 _ rfl
  have h2 : DataW.trod enc Tryd.prog W 0 (fun _ => true) true m 22 ((cs.drop 2).take (Tryd.prog.cellsOf 22)) = xs[2]? := hel 2 _ rfl
  have h3 : DataW.trod enc Tryd.prog W 0 (fun _ => true) true m 38 ((cs.drop 3).take (Tryd.prog.cellsOf 38)) = xs[3]? := hel 3 _ rfl
  have h4 : DataW.trod enc Tryd.prog W 0 (fun _ => true) true m 39 ((cs.drop 9).take (Tryd.prog.cellsOf 39)) = xs[4]? := hel 4 _ rfl
  rw [List.getElem?_eq_getElem (by omega)] at h0 h1 h2 h3 h4
  obtain ⟨c0, c1, c2, c3, c4, c5, c6, c7, c8, c9, rfl⟩ := list10 hlen
  simp only [e3, e4, e5, e6, List.drop_zero, List.drop_succ_cons, List.take_succ_cons, List.take_zero] at h0 h1 h2 h3 h4
  obtain ⟨n0, q0, _, w0⟩ := DataW.trod_int Tryd.underlying3 h0
  obtain ⟨n1, q1, _, w1⟩ := DataW.trod_int Tryd.underlying3 h1
  obtain ⟨ba, bc, bs, rfl, hb1, hb2, hb3, hb4⟩ := byte_of_trod h2
  obtain ⟨d, hd, hhd⟩ := dlt_of_trod h3
  obtain ⟨la, lc, ls, rfl, hl1, hl2, hl3, hl4⟩ := list_of_trod h4
  simp only [List.cons.injEq, and_true] at q0 q1 hd
  obtain ⟨rfl, rfl, rfl, rfl, rfl, rfl⟩ := hd
  subst q0 q1
  exact ⟨⟨n0, n1, ba, bc, bs, d, la, lc, ls⟩, rfl, wf_i64 w0, wf_i64 w1, hb1, hb2, ⟨hb3, hb4⟩, hhd, hl1, hl2, ⟨hl3, hl4⟩⟩
instance : Inhabited HD := ⟨⟨false, none, 0, [], none, 0, [], false, none, 0, [], none, 0, []⟩⟩
instance : Inhabited TD := ⟨⟨0, 0, none, 0, [], default, none, 0, []⟩⟩
set_option maxRecDepth 100000 in
/-- Things that a law is handed. -/
theorem open_things {H : Type} {enc : TypeId × Value → H} {W : World} {base : Nat} {v : Value} {d : DataW H} {ps : List MemPlace}
    (hv : Value.okWide Tryd.prog W .any base 23 v) (h : DataW.Trod enc Tryd.prog W 0 (fun _ => true) true 23 v d ps) :
    ∃ a c ts, v = .slice a (List.length ts) c ∧ ThingsIn W a c ts ∧ ∀ t ∈ ts, HandT W t := by
  obtain ⟨a0, len0, cap0, rfl⟩ := okWide_slice Tryd.underlying23 hv
  obtain ⟨fuel, hf⟩ := h
  have hf' : DataW.trod enc Tryd.prog W 0 (fun _ => true) true fuel 23 [.slice a0 len0 cap0] = some (d, ps) := hf
  rcases Go.Deep.open_slice Tryd.underlying23 hf' with ⟨hcs, hx⟩ | ⟨a, len, cap, m, n, D, Pl, hcs, _, hl, hm, hmm, hx, hel⟩
  · simp only [List.cons.injEq, and_true, Value.slice.injEq] at hcs
    obtain ⟨rfl, rfl, rfl⟩ := hcs
    exact ⟨none, 0, [], rfl, ⟨by simp, by simp [maxLen], .inl rfl⟩, by simp⟩
  · simp only [List.cons.injEq, and_true, Value.slice.injEq] at hcs
    obtain ⟨rfl, rfl, rfl⟩ := hcs
    simp only [if_true] at hmm
    have e10 : Tryd.prog.cellsOf 41 = 10 := by kernel_rfl
    rw [e10] at hel
    have hch : ∀ i, i < len0 → ∃ t : TD, (∀ j u, t.vals[j]? = some u → W.cell? ((a.add (i * 10)).add j) = some u) ∧ HandT W t := by
      intro i hi
      obtain ⟨cs', h1, h2⟩ := hel i (by omega)
      obtain ⟨_, h3, h4⟩ := World.cells?_some h1
      obtain ⟨t, rfl, ht⟩ := thing_of_trod h2
      refine ⟨t, fun j u hu => ?_, ht⟩
      have hj : j < 10 := by
        have := (List.getElem?_eq_some_iff.1 hu).1
        simpa [TD.vals] using this
      rw [h4 j hj]
      exact hu
    obtain ⟨f, hfs⟩ := Go.Deep.choose_lt hch
    have hlen : ((List.range len0).map f).length = len0 := by simp
    refine ⟨some a, cap0, (List.range len0).map f, by rw [hlen], ⟨by rw [hlen]; exact hl, hm, ?_⟩, fun p hp => ?_⟩
    · rcases Nat.eq_zero_or_pos len0 with h0 | h0
      · subst h0
        exact .inl (by simp)
      · have hc0 := (hfs 0 h0).1 0 (.int .i64 (f 0).kind) rfl
        have hsp := World.cell?_spot hc0
        obtain ⟨g, off, sp⟩ := a
        have hsp' : sp = none := by simpa [Addr.add] using hsp
        subst hsp'
        refine .inr ⟨g, off, rfl, fun k p hk j u hu => ?_⟩
        obtain ⟨hk1, rfl⟩ : k < len0 ∧ f k = p := by
          rw [List.getElem?_map] at hk
          obtain ⟨i, hi, rfl⟩ := Option.map_eq_some_iff.1 hk
          obtain ⟨hi1, hi2⟩ := List.getElem?_eq_some_iff.1 hi
          simp at hi1 hi2
          subst hi2
          exact ⟨hi1, rfl⟩
        have h := (hfs k hk1).1 j u hu
        rw [Go.Deep.add_add] at h
        rwa [show (⟨g, off + (k * 10 + j), none⟩ : Addr) = (⟨g, off, none⟩ : Addr).add (k * 10 + j) by unfold Addr.add; split <;> simp_all]
    · obtain ⟨i, hi, rfl⟩ := List.mem_map.1 hp
      exact (hfs i (by simpa using hi)).2
end Go.Proofs.YtodedlnpokagfaaDoor


/-
  Layer 4: bytes that a law is handed, read out of memory.
-/
set_option linter.unusedVariables false
set_option linter.unusedSimpArgs false
namespace Go.Proofs.YtodedlnpokagfaaDoor
open Go.ChangeShapes Go.WideShapes Go.ChangeAt Go.RowKit Rep

set_option maxRecDepth 100000 in
theorem open_bytes {H : Type} {enc : TypeId × Value → H} {W : World} {base : Nat} {v : Value} {d : DataW H} {ps : List MemPlace}
    (hv : Value.okWide Tryd.prog W .any base 22 v) (h : DataW.Trod enc Tryd.prog W 0 (fun _ => true) true 22 v d ps) :
    ∃ a c xs, v = .slice a (List.length xs) c ∧ Reads W a (xs.map u8v) ∧ Pk.Byt xs ∧ xs.length ≤ c ∧ c ≤ maxLen := by
  obtain ⟨a0, len0, cap0, rfl⟩ := okWide_slice Tryd.underlying22 hv
  obtain ⟨fuel, hf⟩ := h
  have hf' : DataW.trod enc Tryd.prog W 0 (fun _ => true) true fuel 22 [.slice a0 len0 cap0] = some (d, ps) := hf
  exact byte_of_trod hf'
end Go.Proofs.YtodedlnpokagfaaDoor
