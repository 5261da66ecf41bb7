/-
  Layer 9: TermGrows.
-/
import Derived.Test.YtmiocohlklnglaaDoorTmSpk
set_option linter.unusedVariables false
set_option linter.unusedSimpArgs false
namespace Go.Proofs.YtmiocohlklnglaaDoor
open Go.RowKit Tm

/-! ### Plainly -/
def opFor (s : Int) : Int := if s = 1 then 3 else 4
def nd0 (s v : Int) : Nd := ⟨opFor s, v, [], true, false⟩
theorem opr_for {s : Int} (hs : s = 1 ∨ s = 2) : oprAt (opFor s) = some ⟨0, 0, 0, 0, s⟩ := by rcases hs with rfl | rfl <;> rfl
theorem told_for {g : Ru} {s v : Int} (hs : s = 1 ∨ s = 2) : told g (nd0 s v) s = (decide (0 ≤ v) && decide (v ≤ greatest g s)) := by
  unfold told nd0
  rw [if_pos (by rcases hs with rfl | rfl <;> simp [opFor])]
  simp
theorem code_over {g : Ru} {s v : Int} (hs : s = 1 ∨ s = 2) (hv : greatest g s < v) : codeOf g (nd0 s v) = 1 ∧ next g (nd0 s v) = g := by
  have h1 : codeOf g (nd0 s v) = 1 := by
    rw [codeOf_some (show oprAt (nd0 s v).op = _ from opr_for hs), told_for hs, decide_eq_false (show ¬ v ≤ greatest g s by omega), Bool.and_false, if_pos rfl]
  exact ⟨h1, by unfold next; rw [if_neg (by omega)]⟩
theorem code_fits {g : Ru} {s v : Int} (hs : s = 1 ∨ s = 2) (h0 : 0 ≤ v) (hv : v ≤ greatest g s) (hf : g.ks.length < 1048576) : codeOf g (nd0 s v) = 0 ∧ next g (nd0 s v) = { g with ks := g.ks ++ [(s, false)] } := by
  have hop : oprAt (nd0 s v).op = some ⟨0, 0, 0, 0, s⟩ := opr_for hs
  have ho : (nd0 s v).op = opFor s := rfl
  have h1 : codeOf g (nd0 s v) = 0 := by
    rw [codeOf_some hop, told_for hs, decide_eq_true h0, decide_eq_true hv]
    have hl : linear g.ks (nd0 s v) = true := by
      unfold linear
      rw [if_neg (by rcases hs with rfl | rfl <;> simp [nd0, opFor]), if_neg (by rcases hs with rfl | rfl <;> simp [nd0, opFor])]
    rw [hl]
    simp [nd0, counts, sorted]
    omega
  refine ⟨h1, ?_⟩
  unfold next
  rw [if_pos h1]
  have hs2 : sortOf g (nd0 s v) = s := by
    unfold sortOf sortOver
    rw [hop]
    show (if s = 0 then _ else s) = s
    rw [if_neg (by rcases hs with rfl | rfl <;> decide)]
  have hg2 : ground g.ks (nd0 s v) = false := by
    unfold ground
    rw [if_neg (by rcases hs with rfl | rfl <;> simp [nd0, opFor]), if_neg (by rcases hs with rfl | rfl <;> simp [nd0, opFor])]
  rw [hs2, hg2]
theorem great_grow {g : Ru} {s : Int} (hs : s = 1 ∨ s = 2) : greatest (growRu g s) s = greatest g s + 1 := by
  rcases hs with rfl | rfl <;> rfl
/-- What the law's own map says. -/
def nmap (g : Ru) : List (Int × Value) := [(1, .int .i64 (g.b + 1)), (2, .int .i64 (g.r + 1))]
def omap : List (Int × Value) := [(1, .int .i64 3), (2, .int .i64 4)]
theorem look_nmap {g : Ru} {s : Int} (hs : s = 1 ∨ s = 2) : (lookL (nmap g) s).getD (.int .i64 0) = .int .i64 (greatest g s + 1) := by rcases hs with rfl | rfl <;> rfl
theorem look_omap {s : Int} (hs : s = 1 ∨ s = 2) : (lookL omap s).getD (.int .i64 0) = .int .i64 (opFor s) ∧ (lookL omap s).isSome = true := by rcases hs with rfl | rfl <;> exact ⟨rfl, rfl⟩
theorem look_omap_no {s : Int} (hs : ¬ (s = 1 ∨ s = 2)) : (lookL omap s).getD (.int .i64 0) = .int .i64 0 ∧ (lookL omap s).isSome = false := by
  unfold omap lookL lookL lookL
  dsimp only
  rw [if_neg (fun e => hs (.inl e)), if_neg (fun e => hs (.inr e))]
  exact ⟨rfl, rfl⟩
theorem upd_nmap {g : Ru} {s : Int} (hs : s = 1 ∨ s = 2) : updI (nmap g) s (.int .i64 (greatest g s + 1 + 1)) = nmap (growRu g s) := by rcases hs with rfl | rfl <;> rfl

/-! ### In memory -/
/-- The law's state: Terms, and two maps. -/
structure GrSt (w0 W : World) (B T R mo mg m1 m2 : Nat) (kv nv : Value) (g gm : Ru) : Prop where
  tm : TmAt W B T R mo mg kv nv g
  n1 : IM W m1 (nmap gm)
  n2 : IM W m2 omap
  ne : m1 ≠ mg ∧ m2 ≠ mg ∧ m1 ≠ m2 ∧ m1 ≠ mo
  below : Below w0.heap.size w0 W
  base : w0.heap.size ≤ B ∧ B ≤ m1 ∧ B ≤ m2 ∧ B ≤ W.heap.size
section
variable {w0 W W' : World} {B T R mo mg m1 m2 : Nat} {kv nv : Value} {g gm g' : Ru}
theorem GrSt.kept (h : GrSt w0 W B T R mo mg m1 m2 kv nv g gm) (hb : Below W.heap.size W W') : GrSt w0 W' B T R mo mg m1 m2 kv nv g gm :=
  ⟨h.tm.kept hb, h.n1.past (hb.block _ h.n1.lt), h.n2.past (hb.block _ h.n2.lt), h.ne, h.below.trans (hb.mono h.below.size), h.base.1, h.base.2.1, h.base.2.2.1, Nat.le_trans h.base.2.2.2 hb.size⟩
theorem GrSt.add (h : GrSt w0 W B T R mo mg m1 m2 kv nv g gm) {kv' nv' : Value} (ht : TmAt W' B T R mo mg kv' nv' g') (hc : Chg (fun j => j = T ∨ j = R ∨ kv.ownBlock = some j ∨ nv.ownBlock = some j) W W') : GrSt w0 W' B T R mo mg m1 m2 kv' nv' g' gm := by
  obtain ⟨xs, hx⟩ := h.tm.row
  have hS : ∀ {m : Nat} {M : List (Int × Value)}, IM W m M → ¬ (m = T ∨ m = R ∨ kv.ownBlock = some m ∨ nv.ownBlock = some m) := by
    rintro m M hm (e | e | e | e)
    · exact hm.ne h.tm.head e
    · exact hm.ne h.tm.ru.head e
    · exact own_ne_map h.tm.ru.row hm e
    · exact own_ne_map hx hm e
  refine ⟨ht, h.n1.chg hc (hS h.n1), h.n2.chg hc (hS h.n2), h.ne, h.below.trans (hc.below ?_ h.below.size), h.base.1, h.base.2.1, h.base.2.2.1, Nat.le_trans h.base.2.2.2 hc.size⟩
  have := h.base.1
  rintro k (e | e | e | e)
  · have := h.tm.low; omega
  · have := h.tm.ru.low.1; omega
  · have := (own_tag h.tm.ru.row e).1; omega
  · have := (own_tag hx e).1; omega
theorem GrSt.grow (h : GrSt w0 W B T R mo mg m1 m2 kv nv g gm) (ht : TmAt W' B T R mo mg kv nv g') (hc : Chg (fun j => j = mg) W W') : GrSt w0 W' B T R mo mg m1 m2 kv nv g' gm :=
  ⟨ht, h.n1.chg hc h.ne.1, h.n2.chg hc h.ne.2.1, h.ne, h.below.trans (hc.below (fun k hk => by have := h.base.1; have := h.tm.ru.low.2.2.1; omega) h.below.size), h.base.1, h.base.2.1, h.base.2.2.1, Nat.le_trans h.base.2.2.2 hc.size⟩
theorem GrSt.upd (h : GrSt w0 W B T R mo mg m1 m2 kv nv g gm) (hm : IM W' m1 (nmap g')) (hc : Chg (fun j => j = m1) W W') : GrSt w0 W' B T R mo mg m1 m2 kv nv g g' := by
  obtain ⟨xs, hx⟩ := h.tm.row
  exact ⟨h.tm.chg hc (fun e => h.n1.ne h.tm.head e.symm) (fun e => h.n1.ne h.tm.ru.head e.symm) (fun e => h.ne.2.2.2 e.symm) (fun e => h.ne.1 e.symm) (fun j hj e => by subst e; exact own_ne_map h.tm.ru.row h.n1 hj) (fun j hj e => by subst e; exact own_ne_map hx h.n1 hj),
    hm, h.n2.chg hc (fun e => h.ne.2.2.1 e.symm), h.ne, h.below.trans (hc.below (fun k hk => by have := h.base.1; have := h.base.2.1; omega) h.below.size), h.base.1, h.base.2.1, h.base.2.2.1, Nat.le_trans h.base.2.2.2 hc.size⟩
end
end Go.Proofs.YtmiocohlklnglaaDoor
