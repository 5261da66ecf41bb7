/- By program out of: RatCard, CardSix, DelCard. -/
import Derived.Test.YtknackfmepkiaaaGreatDoorMepcfjp
import Derived.Test.YtknackfmepkiaaaGreatDoorMleicjm
import Derived.Test.YtknackfmepkiaaaGreatDoorMpgddfh
import Derived.ChangeSame
import Derived.Test.YtknackfmepkiaaaGreatDoorMknfkeh
/-
  What a law's card asks beside its walk, where ratios are handed in.
-/
set_option linter.unusedVariables false
set_option linter.unusedSimpArgs false
namespace Go.Proofs.YtknackfmepkiaaaGreatDoor
open Go.ChangeShapes Go.WideShapes Go.ChangeAt Go.RowKit Rep

set_option maxRecDepth 100000 in
/-- A []uint32 inside what a law is handed. -/
theorem limbs_of_trod {H : Type} {enc : TypeId × Value → H} {W : World} {t : TypeId} {c : Value} {fuel : Nat} {x : DataW H × List MemPlace}
    (ht : Tryz.prog.underlying t = some (.slice 118)) (hf : DataW.trod enc Tryz.prog W 0 (fun _ => true) true fuel t [c] = some x) :
    ∃ a k xs, c = .slice a xs.length k ∧ Handed W a k xs := by
  rcases open_ints ht Tryz.underlying118 (show Tryz.prog.cellsOf 118 = 1 by kernel_rfl) hf with ⟨hcs, hx⟩ | ⟨a, len, cap, zs, hcs, _, hl, hm, hz, hx, hcell, hw⟩
  · simp only [List.cons.injEq, and_true] at hcs
    subst hcs
    exact ⟨none, 0, [], rfl, Dig.nil _, Reads.nil _ _, by simp, by simp [maxLen]⟩
  · simp only [List.cons.injEq, and_true] at hcs
    subst hcs
    simp only [if_true] at hz
    have hnat : ∀ z ∈ zs, ∃ n : Nat, z = (n : Int) ∧ n < 4294967296 := by
      intro z hzm
      have h := hw z hzm
      have e1 : IntKind.u32.min = 0 := rfl
      have e2 : IntKind.u32.max = 4294967295 := rfl
      simp [Lit.wf, e1, e2] at h
      exact ⟨z.toNat, by omega, by omega⟩
    have hlen : ((zs.take len).map Int.toNat).length = len := by simp; omega
    refine ⟨some a, cap, (zs.take len).map Int.toNat, by rw [hlen], ?_, ?_, by rw [hlen]; exact hl, hm⟩
    · intro x hx
      obtain ⟨z, hzm, rfl⟩ := List.mem_map.1 hx
      obtain ⟨n, rfl, hn⟩ := hnat z (List.mem_of_mem_take hzm)
      simpa using hn
    · rcases Nat.eq_zero_or_pos len with h0 | h0
      · subst h0
        exact .inl (by simp)
      · have hsp := World.cell?_spot (hcell 0 (by omega))
        obtain ⟨g, off, sp⟩ := a
        have hsp' : sp = none := by simpa [Addr.add] using hsp
        subst hsp'
        refine .inr ⟨g, off, rfl, fun i u hu => ?_⟩
        rw [List.map_map, List.getElem?_map, List.getElem?_take] at hu
        split at hu
        · rename_i hi
          have hlt : i < zs.length := by omega
          rw [List.getElem?_eq_getElem hlt] at hu
          obtain ⟨n, hn, _⟩ := hnat zs[i] (List.getElem_mem hlt)
          have h := hcell i hlt
          rw [List.getD_eq_getElem?_getD, List.getElem?_eq_getElem hlt] at h
          simp only [Option.map_some, Option.some.injEq, Function.comp, u32v, hn, Int.toNat_natCast] at hu
          rw [← hu]
          rw [show (⟨g, off + i, none⟩ : Addr) = (⟨g, off, none⟩ : Addr).add i by unfold Addr.add; split <;> simp_all]
          simpa only [Option.getD_some, hn] using h
        · simp at hu

theorem array3' {a : Array Value} (h : a.size = 3) : ∃ x y z, a = #[x, y, z] := by
  obtain ⟨l⟩ := a
  match l, h with
  | [x, y, z], _ => exact ⟨x, y, z, rfl⟩

set_option maxRecDepth 100000 in
/-- A ratio that a law is handed. -/
theorem open_ratio {H : Type} {enc : TypeId × Value → H} {W : World} {base : Nat} {v : Value} {d : DataW H} {ps : List MemPlace}
    (hv : Value.okWide Tryz.prog W .any base 30 v) (h : DataW.Trod enc Tryz.prog W 0 (fun _ => true) true 30 v d ps) :
    ∃ s a1 c1 xs a2 c2 ds, v = ratV s (.slice a1 xs.length c1) (.slice a2 ds.length c2) ∧ HandR W a1 c1 xs a2 c2 ds := by
  obtain ⟨cs, rfl, hsz⟩ := okWide_struct Tryz.underlying30 hv
  obtain ⟨c0, c1, c2, rfl⟩ := array3' (hsz.trans (show Tryz.prog.cellsOf 30 = 3 by kernel_rfl))
  obtain ⟨fuel, hf⟩ := h
  obtain ⟨y0, y1, n, hx, _, h0, h1⟩ := trod_struct2 Tryz.underlying30 hf
  have e1 : Tryz.prog.cellsOf 28 = 2 := by kernel_rfl
  have e2 : Tryz.prog.cellsOf 26 = 1 := by kernel_rfl
  have e3 : Tryz.prog.cellsOf 4 = 1 := by kernel_rfl
  simp only [Value.cells, e1, e2, List.drop_zero, List.drop_succ_cons, List.take_succ_cons, List.take_zero] at h0 h1
  obtain ⟨z0, z1, n2, hx2, _, g0, g1⟩ := trod_struct2 Tryz.underlying28 h0
  simp only [e2, e3, List.drop_zero, List.drop_succ_cons, List.take_succ_cons, List.take_zero] at g0 g1
  obtain ⟨s, hs, _⟩ := DataW.trod_bool Tryz.underlying4 g0
  obtain ⟨a1, k1, xs, rfl, hn⟩ := limbs_of_trod Tryz.underlying26 g1
  obtain ⟨a2, k2, ds, rfl, hd⟩ := limbs_of_trod Tryz.underlying26 h1
  simp only [List.cons.injEq, and_true] at hs
  subst hs
  exact ⟨s, a1, k1, xs, a2, k2, ds, rfl, hn, hd⟩
def zeroV : Value := .agg #[.bool false, .slice none 0 0, .slice none 0 0]
end Go.Proofs.YtknackfmepkiaaaGreatDoor


/-
  Cards of laws with four, and with six arguments.
-/
set_option linter.unusedVariables false
set_option linter.unusedSimpArgs false
namespace Go.Proofs.YtknackfmepkiaaaGreatDoor
open Go.ChangeShapes Go.WideShapes Go.ChangeAt Go.RowKit Rep

theorem trodAll_four {H : Type} {enc : TypeId × Value → H} {P : Program} {w : World} {base : Nat} {spare : Nat → Bool} {held : Bool} {t0 t1 t2 t3 : TypeId} {args : Array Value} {ds : List (DataW H)} {ps : List MemPlace} (h : DataW.TrodAll enc P w base spare held [t0, t1, t2, t3] args.toList ds ps) :
    ∃ v0 v1 v2 v3 d0 d1 d2 d3 p0 p1 p2 p3, args = #[v0, v1, v2, v3] ∧ ds = [d0, d1, d2, d3] ∧ ps = p0 ++ (p1 ++ (p2 ++ p3)) ∧ DataW.Trod enc P w base spare held t0 v0 d0 p0 ∧ DataW.Trod enc P w base spare held t1 v1 d1 p1 ∧ DataW.Trod enc P w base spare held t2 v2 d2 p2 ∧ DataW.Trod enc P w base spare held t3 v3 d3 p3 := by
  obtain ⟨v0, w0, d0, e0, p0, q0, hargs, rfl, rfl, h0, r0⟩ := trodAll_cons h
  obtain ⟨v1, w1, d1, e1, p1, q1, rfl, rfl, rfl, h1, r1⟩ := trodAll_cons r0
  obtain ⟨v2, w2, d2, e2, p2, q2, rfl, rfl, rfl, h2, r2⟩ := trodAll_cons r1
  obtain ⟨v3, w3, d3, e3, p3, q3, rfl, rfl, rfl, h3, r3⟩ := trodAll_cons r2
  obtain ⟨rfl, rfl, rfl⟩ := trodAll_nil r3
  exact ⟨v0, v1, v2, v3, d0, d1, d2, d3, p0, p1, p2, p3, by cases args; simp_all, rfl, by simp, h0, h1, h2, h3⟩
theorem trodAll_six {H : Type} {enc : TypeId × Value → H} {P : Program} {w : World} {base : Nat} {spare : Nat → Bool} {held : Bool} {t0 t1 t2 t3 t4 t5 : TypeId} {args : Array Value} {ds : List (DataW H)} {ps : List MemPlace} (h : DataW.TrodAll enc P w base spare held [t0, t1, t2, t3, t4, t5] args.toList ds ps) :
    ∃ v0 v1 v2 v3 v4 v5 d0 d1 d2 d3 d4 d5 p0 p1 p2 p3 p4 p5, args = #[v0, v1, v2, v3, v4, v5] ∧ ds = [d0, d1, d2, d3, d4, d5] ∧ ps = p0 ++ (p1 ++ (p2 ++ (p3 ++ (p4 ++ p5)))) ∧ DataW.Trod enc P w base spare held t0 v0 d0 p0 ∧ DataW.Trod enc P w base spare held t1 v1 d1 p1 ∧ DataW.Trod enc P w base spare held t2 v2 d2 p2 ∧ DataW.Trod enc P w base spare held t3 v3 d3 p3 ∧ DataW.Trod enc P w base spare held t4 v4 d4 p4 ∧ DataW.Trod enc P w base spare held t5 v5 d5 p5 := by
  obtain ⟨v0, w0, d0, e0, p0, q0, hargs, rfl, rfl, h0, r0⟩ := trodAll_cons h
  obtain ⟨v1, w1, d1, e1, p1, q1, rfl, rfl, rfl, h1, r1⟩ := trodAll_cons r0
  obtain ⟨v2, w2, d2, e2, p2, q2, rfl, rfl, rfl, h2, r2⟩ := trodAll_cons r1
  obtain ⟨v3, w3, d3, e3, p3, q3, rfl, rfl, rfl, h3, r3⟩ := trodAll_cons r2
  obtain ⟨v4, w4, d4, e4, p4, q4, rfl, rfl, rfl, h4, r4⟩ := trodAll_cons r3
  obtain ⟨v5, w5, d5, e5, p5, q5, rfl, rfl, rfl, h5, r5⟩ := trodAll_cons r4
  obtain ⟨rfl, rfl, rfl⟩ := trodAll_nil r5
  exact ⟨v0, v1, v2, v3, v4, v5, d0, d1, d2, d3, d4, d5, p0, p1, p2, p3, p4, p5, by cases args; simp_all, rfl, by simp, h0, h1, h2, h3, h4, h5⟩
theorem int_ge {n : Int} (h : (Lit.int .i64 n).wf = true) : -9223372036854775808 ≤ n := by
  have e1 : IntKind.i64.min = -9223372036854775808 := rfl
  have e2 : IntKind.i64.max = 9223372036854775807 := rfl
  simp [Lit.wf, e1, e2] at h
  omega
end Go.Proofs.YtknackfmepkiaaaGreatDoor


/-
  What a law's card asks beside its walk, where numbers with a delta are handed in.
-/
set_option linter.unusedVariables false
set_option linter.unusedSimpArgs false
namespace Go.Proofs.YtknackfmepkiaaaGreatDoor
open Go.ChangeShapes Go.WideShapes Go.ChangeAt Go.RowKit Rep

set_option maxRecDepth 100000 in
/-- A ratio inside what a law is handed. -/
theorem ratio_of_trod {H : Type} {enc : TypeId × Value → H} {W : World} {c0 c1 c2 : Value} {fuel : Nat} {x : DataW H × List MemPlace}
    (hf : DataW.trod enc Tryz.prog W 0 (fun _ => true) true fuel 30 [c0, c1, c2] = some x) :
    ∃ s a1 k1 xs a2 k2 ds, c0 = .bool s ∧ c1 = .slice a1 xs.length k1 ∧ c2 = .slice a2 ds.length k2 ∧ HandR W a1 k1 xs a2 k2 ds := by
  obtain ⟨y0, y1, n, hx, _, h0, h1⟩ := trod_struct2 Tryz.underlying30 hf
  have e1 : Tryz.prog.cellsOf 28 = 2 := by kernel_rfl
  have e2 : Tryz.prog.cellsOf 26 = 1 := by kernel_rfl
  have e3 : Tryz.prog.cellsOf 4 = 1 := by kernel_rfl
  simp only [e1, e2, List.drop_zero, List.drop_succ_cons, List.take_succ_cons, List.take_zero] at h0 h1
  obtain ⟨z0, z1, n2, hx2, _, g0, g1⟩ := trod_struct2 Tryz.underlying28 h0
  simp only [e2, e3, List.drop_zero, List.drop_succ_cons, List.take_succ_cons, List.take_zero] at g0 g1
  obtain ⟨s, hs, _⟩ := DataW.trod_bool Tryz.underlying4 g0
  obtain ⟨a1, k1, xs, rfl, hn⟩ := limbs_of_trod Tryz.underlying26 g1
  obtain ⟨a2, k2, ds, rfl, hd⟩ := limbs_of_trod Tryz.underlying26 h1
  simp only [List.cons.injEq, and_true] at hs
  subst hs
  exact ⟨s, a1, k1, xs, a2, k2, ds, rfl, rfl, rfl, hn, hd⟩
theorem array6' {a : Array Value} (h : a.size = 6) : ∃ x0 x1 x2 x3 x4 x5, a = #[x0, x1, x2, x3, x4, x5] := by
  obtain ⟨l⟩ := a
  match l, h with
  | [x0, x1, x2, x3, x4, x5], _ => exact ⟨x0, x1, x2, x3, x4, x5, rfl⟩

set_option maxRecDepth 100000 in
/-- A number with a delta that a law is handed. -/
theorem open_delta {H : Type} {enc : TypeId × Value → H} {W : World} {base : Nat} {v : Value} {d : DataW H} {ps : List MemPlace}
    (hv : Value.okWide Tryz.prog W .any base 32 v) (h : DataW.Trod enc Tryz.prog W 0 (fun _ => true) true 32 v d ps) :
    ∃ x : HD, v = .agg #[.bool x.s, .slice x.a1 x.xs.length x.c1, .slice x.a2 x.ds.length x.c2, .bool x.t, .slice x.b1 x.ys.length x.e1, .slice x.b2 x.es.length x.e2] ∧ HandD W x := by
  obtain ⟨cs, rfl, hsz⟩ := okWide_struct Tryz.underlying32 hv
  obtain ⟨c0, c1, c2, c3, c4, c5, rfl⟩ := array6' (hsz.trans (show Tryz.prog.cellsOf 32 = 6 by kernel_rfl))
  obtain ⟨fuel, hf⟩ := h
  obtain ⟨y0, y1, n, hx, _, h0, h1⟩ := trod_struct2 Tryz.underlying32 hf
  have e1 : Tryz.prog.cellsOf 30 = 3 := by kernel_rfl
  simp only [Value.cells, e1, List.drop_zero, List.drop_succ_cons, List.take_succ_cons, List.take_zero] at h0 h1
  obtain ⟨s, a1, k1, xs, a2, k2, ds, rfl, rfl, rfl, g0⟩ := ratio_of_trod h0
  obtain ⟨t, b1, j1, ys, b2, j2, es, rfl, rfl, rfl, g1⟩ := ratio_of_trod h1
  exact ⟨⟨s, a1, k1, xs, a2, k2, ds, t, b1, j1, ys, b2, j2, es⟩, rfl, g0, g1⟩
def zeroD : Value := .agg #[.bool false, .slice none 0 0, .slice none 0 0, .bool false, .slice none 0 0, .slice none 0 0]
end Go.Proofs.YtknackfmepkiaaaGreatDoor

