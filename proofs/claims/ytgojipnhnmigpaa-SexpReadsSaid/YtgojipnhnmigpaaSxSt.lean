/-
  Layer 8: a reader in memory: the lists that aren't closed, each with a row of its own.
-/
import Derived.Test.YtgojipnhnmigpaaSxMem
import Derived.WalkSmall
set_option linter.unusedVariables false
set_option linter.unusedSimpArgs false
namespace Go.Proofs.Ytgojipnhnmigpaa
open Go.RowKit Sx

theorem ownsRow_cells {e : TypeId} {s n g cap B : Nat} : ∀ (D' C D E : List Value) {w : World}, D.length = D'.length → w.ownsRow B e s (.slice (some ⟨g, 0, none⟩) n cap) n (C ++ (D ++ E)) →
    (w.setCells g C.length D').ownsRow B e s (.slice (some ⟨g, 0, none⟩) n cap) n (C ++ (D' ++ E))
  | [], C, D, E, w, hl, h => by
    obtain rfl : D = [] := List.eq_nil_of_length_eq_zero hl
    exact h
  | d' :: D', C, [], E, w, hl, h => by simp at hl
  | d' :: D', C, d :: D, E, w, hl, h => by
    have h1 := (h.stored C.length d').1
    rw [show (C ++ (d :: D ++ E)).set C.length d' = (C ++ [d']) ++ (D ++ E) by simp [List.set_append]] at h1
    have h2 := ownsRow_cells D' (C ++ [d']) D E (by simpa using hl) h1
    rw [List.length_append, List.length_singleton] at h2
    rw [World.setCells]
    simpa using h2
/-- The one's block isn't the other's. -/
def Ap (u v : Value) : Prop := ∀ k, u.ownBlock = some k → v.ownBlock ≠ some k
theorem Ap.symm {u v : Value} (h : Ap u v) : Ap v u := fun k h1 h2 => h k h2 h1
/-- A block's number, as a value. -/
def rv (R : Nat) : Value := .slice (some ⟨R, 0, none⟩) 0 0
/-- No row's own block. -/
def Free (B : Nat) (own : List Value) (k : Nat) : Prop := B ≤ k ∧ ∀ u ∈ own, u.ownBlock ≠ some k
def stackC : List Fr → List Value → List Value
  | f :: fs, v :: vs => stackC fs vs ++ sx5 f.l f.t v
  | _, _ => []
def RowsS (w : World) (B : Nat) (F : Nat → Prop) : List Fr → List Value → Prop
  | [], [] => True
  | f :: fs, v :: vs => RowS w B F v f.acc ∧ RowsS w B F fs vs
  | _, _ => False
theorem stackC_len {w : World} {B : Nat} {F : Nat → Prop} : ∀ {fs : List Fr} {vs : List Value}, RowsS w B F fs vs → (stackC fs vs).length = fs.length * 5
  | [], [], _ => rfl
  | f :: fs, v :: vs, h => by
    have := stackC_len h.2
    simp [stackC, this, sx5]
    omega
  | [], _ :: _, h => h.elim
  | _ :: _, [], h => h.elim
theorem stackC_one {w : World} {B : Nat} {F : Nat → Prop} : ∀ {fs : List Fr} {vs : List Value}, RowsS w B F fs vs → ∀ u ∈ stackC fs vs, u.oneCell' = true
  | [], [], _ => by simp [stackC]
  | f :: fs, v :: vs, h => by
    intro u hu
    simp only [stackC, List.mem_append] at hu
    rcases hu with hu | hu
    · exact stackC_one h.2 u hu
    · simp [sx5] at hu
      obtain ⟨C, ⟨_, h2⟩, _⟩ := h.1
      rcases hu with rfl | rfl | rfl | rfl | rfl
      · rfl
      · rfl
      · rfl
      · rfl
      · rcases h2 with ⟨rfl, _⟩ | ⟨_, _, _, rfl, _⟩ <;> rfl
  | [], _ :: _, h => h.elim
  | _ :: _, [], h => h.elim
theorem RowsS.turn {w w' : World} {B : Nat} {F G S : Nat → Prop} (hc : Chg S w w') (hS : ∀ k, F k → k < w.heap.size → ¬ S k) (hG : ∀ k, F k → k < w.heap.size → G k) : ∀ {fs : List Fr} {vs : List Value}, RowsS w B F fs vs → (∀ v ∈ vs, ∀ k, v.ownBlock = some k → ¬ S k) → RowsS w' B G fs vs
  | [], [], _, _ => trivial
  | f :: fs, v :: vs, h, hv => ⟨h.1.turn hc (hv v (by simp)) hS hG, RowsS.turn hc hS hG h.2 (fun u hu => hv u (by simp [hu]))⟩
  | [], _ :: _, h, _ => h.elim
  | _ :: _, [], h, _ => h.elim
theorem RowsS.lt {w : World} {B : Nat} {F : Nat → Prop} : ∀ {fs : List Fr} {vs : List Value}, RowsS w B F fs vs → ∀ v ∈ vs, ∀ k, v.ownBlock = some k → B ≤ k ∧ k < w.heap.size
  | [], [], _ => by simp
  | f :: fs, v :: vs, h => by
    intro u hu k hk
    rcases List.mem_cons.1 hu with rfl | hu
    · exact h.1.lt k hk
    · exact h.2.lt u hu k hk
  | [], _ :: _, h => h.elim
  | _ :: _, [], h => h.elim
/-- A reader: block R; its row of lists; each list's row; N: how much there is at most. -/
structure RSt (w0 : World) (R : Nat) (N : Nat) (W : World) (fs : List Fr) (sv : Value) (vs : List Value) : Prop where
  head : W.heap[R]? = some (.cells #[sv] 66 (0, 0))
  stack : W.ownsRow w0.heap.size 38 5 sv fs.length (stackC fs vs)
  rows : RowsS W w0.heap.size (Free w0.heap.size (rv R :: sv :: vs)) fs vs
  apart : (rv R :: sv :: vs).Pairwise Ap
  below : Below w0.heap.size w0 W
  low : w0.heap.size ≤ R
  some_ : fs ≠ []
  deep : fs.length ≤ 1001
  few : ∀ f ∈ fs, f.acc.len ≤ N
  small : N ≤ 1000000
section
variable {w0 W W' : World} {R N : Nat} {fs : List Fr} {sv v : Value} {vs : List Value} {f : Fr}
theorem RSt.cells (h : RSt w0 R N W fs sv vs) : W.cell? ⟨R, 0, none⟩ = some sv ∧ ∀ i, W.frozen? ⟨R, i, none⟩ = false := by
  have := h.head
  simp [World.cell?, World.frozen?, this]
theorem RSt.Rlt (h : RSt w0 R N W fs sv vs) : R < W.heap.size := (Array.getElem?_eq_some_iff.1 h.head).1
theorem RSt.value (h : RSt w0 R N W fs sv vs) : ∃ g c n, sv = .slice (some ⟨g, 0, none⟩) (n + 1) c ∧ fs.length = n + 1 ∧ n + 1 ≤ c ∧ g < W.heap.size ∧ g ≠ R := by
  have hs := h.some_
  have hne : fs.length ≠ 0 := fun e => hs (List.eq_nil_of_length_eq_zero e)
  rcases h.stack.2 with ⟨_, e⟩ | ⟨g, cap, cur, e, hb, hg, hnc, _⟩
  · exact absurd e hne
  · refine ⟨g, cap, fs.length - 1, by rw [e]; congr 1; omega, by omega, by omega, (Array.getElem?_eq_some_iff.1 hg).1, ?_⟩
    have := (List.pairwise_cons.1 h.apart).1 sv (by simp)
    rintro rfl
    exact this g rfl (by rw [e]; rfl)
/-- Old memory isn't the reader's. -/
theorem RSt.own (h : RSt w0 R N W fs sv vs) : ∀ u ∈ rv R :: sv :: vs, ∀ k, u.ownBlock = some k → w0.heap.size ≤ k ∧ k < W.heap.size := by
  intro u hu k hk
  rcases List.mem_cons.1 hu with rfl | hu
  · cases hk
    exact ⟨h.low, h.Rlt⟩
  · rcases List.mem_cons.1 hu with rfl | hu
    · exact World.ownsRow.lt h.stack k hk
    · exact h.rows.lt u hu k hk
/-- New memory changes nothing. -/
theorem RSt.kept (h : RSt w0 R N W fs sv vs) (hb : Below W.heap.size W W') : RSt w0 R N W' fs sv vs := by
  have hc : Chg (fun _ => False) W W' := .of_below hb
  exact ⟨(hb.block R h.Rlt).trans h.head, ownsRow_turn h.stack hc (fun _ _ h => h), h.rows.turn hc (fun _ _ _ h => h) (fun _ h _ => h) (fun _ _ _ _ h => h), h.apart,
    h.below.trans (hb.mono h.below.size), h.low, h.some_, h.deep, h.few, h.small⟩
theorem RSt.more (h : RSt w0 R N W fs sv vs) {N' : Nat} (hN : N ≤ N') (hs : N' ≤ 1000000) : RSt w0 R N' W fs sv vs :=
  { h with few := fun f hf => Nat.le_trans (h.few f hf) hN, small := hs }
/-- Another world, but for the reader's own blocks as it was; N: which of these have changed. -/
theorem chg_two {W1 : World} {a b : Option Nat} (hg : W.grownBy W1 a) (hh : ∀ k, k < W.heap.size → some k ≠ a → some k ≠ b → W'.heap[k]? = W1.heap[k]?) (ho : W'.os = W1.os ∧ W'.tape = W1.tape ∧ W'.output = W1.output ∧ W'.heap.size = W1.heap.size) :
    Chg (fun k => some k = a ∨ some k = b) W W' :=
  ⟨ho.1.trans hg.os, ho.2.1.trans hg.tape, ho.2.2.1.trans hg.output, by rw [ho.2.2.2]; exact hg.size, fun k hk hn => (hh k hk (fun e => hn (.inl e)) (fun e => hn (.inr e))).trans (hg.block k hk (fun e => hn (.inl e)))⟩
/-- What is put into the last list stands in it. -/
theorem RSt.putEnd (h : RSt w0 R N W (f :: fs) sv (v :: vs)) {W' : World} {v' : Value} {C : List Value} {l : Bool} {t : Tk} {kv : Value} {k : Fo}
    (hc : Chg (fun j => some j = v.ownBlock ∨ some j = sv.ownBlock) W W') (hnew : ∀ j, v'.ownBlock = some j → v.ownBlock = some j ∨ W.heap.size ≤ j)
    (hf : FoAt W (Free w0.heap.size (rv R :: sv :: v :: vs)) f.acc C) (hk : SlAt W (Free w0.heap.size (rv R :: sv :: v :: vs)) kv k)
    (h1 : W'.ownsRow w0.heap.size 38 5 v' (f.acc.len + 1) (C ++ sx5 l t kv)) (h2 : W'.ownsRow w0.heap.size 38 5 sv (fs.length + 1) (stackC fs vs ++ sx5 f.l f.t v')) (hN : N + 1 ≤ 1000000) :
    RSt w0 R (N + 1) W' (f.put (.one l t k) :: fs) sv (v' :: vs) := by
  have hap := h.apart
  simp only [List.pairwise_cons, List.mem_cons, forall_eq_or_imp] at hap
  obtain ⟨⟨a1, a2, a3⟩, ⟨a4, a5⟩, a6, a7⟩ := hap
  have hown := h.own
  have b1 : ∀ u, (u = sv ∨ u ∈ vs ∨ u = rv R) → Ap u v → Ap u v' := by
    intro u hu hap j hj hj'
    rcases hnew j hj' with e | e
    · exact hap j hj e
    · have := (hown u (by rcases hu with rfl | hu | rfl <;> simp [*]) j hj).2
      omega
  have hap' : (rv R :: sv :: v' :: vs).Pairwise Ap := by
    simp only [List.pairwise_cons, List.mem_cons, forall_eq_or_imp]
    exact ⟨⟨a1, b1 _ (.inr (.inr rfl)) a2, a3⟩, ⟨b1 _ (.inl rfl) a4, a5⟩, fun u hu => (b1 u (.inr (.inl hu)) (a6 u hu).symm).symm, a7⟩
  have hG : ∀ j, Free w0.heap.size (rv R :: sv :: v :: vs) j → j < W.heap.size → Free w0.heap.size (rv R :: sv :: v' :: vs) j := by
    rintro j ⟨g1, g2⟩ hj
    refine ⟨g1, fun u hu e => ?_⟩
    simp only [List.mem_cons] at hu
    rcases hu with rfl | rfl | rfl | hu
    · exact g2 _ (by simp) e
    · exact g2 _ (by simp) e
    · rcases hnew j e with e' | e'
      · exact g2 v (by simp) e'
      · omega
    · exact g2 u (by simp [hu]) e
  have hS : ∀ j, Free w0.heap.size (rv R :: sv :: v :: vs) j → j < W.heap.size → ¬ (some j = v.ownBlock ∨ some j = sv.ownBlock) := by
    rintro j ⟨g1, g2⟩ hj (e | e)
    · exact g2 v (by simp) e.symm
    · exact g2 sv (by simp) e.symm
  refine ⟨?_, h2, ⟨⟨C ++ sx5 l t kv, ?_, ?_⟩, ?_⟩, hap', ?_, h.low, by simp, h.deep, ?_, hN⟩
  · rw [hc.block R h.Rlt (by rintro (e | e); exact a2 R rfl e.symm; exact a1 R rfl e.symm)]
    exact h.head
  · rw [Fr.put, Fo.len_snoc]
    exact h1
  · exact (hf.turn hc hS hG).app (.single (hk.turn hc hS hG))
  · exact h.rows.2.turn hc hS hG (fun u hu j hj => by
      rintro (e | e)
      · exact a6 u hu j e.symm hj
      · exact a5 u hu j e.symm hj)
  · refine h.below.trans (hc.below (fun j hj => ?_) h.below.size)
    rcases hj with e | e
    · exact (hown v (by simp) j e.symm).1
    · exact (hown sv (by simp) j e.symm).1
  · intro g hg
    rcases List.mem_cons.1 hg with rfl | hg
    · rw [Fr.put, Fo.len_snoc]
      have := h.few f (by simp)
      omega
    · have := h.few g (by simp [hg])
      omega
/-- A new list that isn't closed. -/
theorem RSt.openEnd (h : RSt w0 R N W fs sv vs) {W' : World} {sv' : Value} {t : Tk}
    (hc : Chg (fun j => some j = sv.ownBlock ∨ j = R) W W') (hnew : ∀ j, sv'.ownBlock = some j → sv.ownBlock = some j ∨ W.heap.size ≤ j)
    (h1 : W'.ownsRow w0.heap.size 38 5 sv' (fs.length + 1) (stackC fs vs ++ sx5 true t (.slice none 0 0))) (h2 : W'.heap[R]? = some (.cells #[sv'] 66 (0, 0))) (hd : fs.length ≤ 1000) :
    RSt w0 R N W' (⟨true, t, .nil⟩ :: fs) sv' (.slice none 0 0 :: vs) := by
  have hap := h.apart
  simp only [List.pairwise_cons, List.mem_cons, forall_eq_or_imp] at hap
  obtain ⟨⟨a1, a2⟩, a4, a7⟩ := hap
  have hown := h.own
  have b1 : ∀ u, (u ∈ vs ∨ u = rv R) → Ap u sv → Ap u sv' := by
    intro u hu hap j hj hj'
    rcases hnew j hj' with e | e
    · exact hap j hj e
    · have := (hown u (by rcases hu with hu | rfl <;> simp [*]) j hj).2
      omega
  have hn : ∀ u, Ap u (.slice none 0 0) := fun u j _ h => by simp [Value.ownBlock] at h
  have hn' : ∀ u, Ap (.slice none 0 0) u := fun u j h => by simp [Value.ownBlock] at h
  have hap' : (rv R :: sv' :: .slice none 0 0 :: vs).Pairwise Ap := by
    simp only [List.pairwise_cons, List.mem_cons, forall_eq_or_imp]
    exact ⟨⟨b1 _ (.inr rfl) a1, hn _, a2⟩, ⟨hn _, fun u hu => (b1 u (.inl hu) (a4 u hu).symm).symm⟩, fun u _ => hn' u, a7⟩
  have hG : ∀ j, Free w0.heap.size (rv R :: sv :: vs) j → j < W.heap.size → Free w0.heap.size (rv R :: sv' :: .slice none 0 0 :: vs) j := by
    rintro j ⟨g1, g2⟩ hj
    refine ⟨g1, fun u hu e => ?_⟩
    simp only [List.mem_cons] at hu
    rcases hu with rfl | rfl | rfl | hu
    · exact g2 _ (by simp) e
    · rcases hnew j e with e' | e'
      · exact g2 sv (by simp) e'
      · omega
    · simp [Value.ownBlock] at e
    · exact g2 u (by simp [hu]) e
  have hS : ∀ j, Free w0.heap.size (rv R :: sv :: vs) j → j < W.heap.size → ¬ (some j = sv.ownBlock ∨ j = R) := by
    rintro j ⟨g1, g2⟩ hj (e | rfl)
    · exact g2 sv (by simp) e.symm
    · exact g2 (rv j) (by simp) rfl
  refine ⟨h2, h1, ⟨RowS.nil _ _ _, ?_⟩, hap', ?_, h.low, by simp, by simp; omega, ?_, h.small⟩
  · exact h.rows.turn hc hS hG (fun u hu j hj => by
      rintro (e | rfl)
      · exact a4 u hu j e.symm hj
      · exact a2 u hu j rfl hj)
  · refine h.below.trans (hc.below (fun j hj => ?_) h.below.size)
    rcases hj with e | rfl
    · exact (hown sv (by simp) j e.symm).1
    · exact h.low
  · intro g hg
    rcases List.mem_cons.1 hg with rfl | hg
    · exact Nat.zero_le _
    · exact h.few g hg
/-- The last list is taken off. -/
theorem RSt.popEnd {g n c : Nat} (h : RSt w0 R N W (f :: fs) (.slice (some ⟨g, 0, none⟩) (n + 1) c) (v :: vs)) (hn : fs.length = n) (hs : fs ≠ []) :
    RSt w0 R N (W.setCell ⟨R, 0, none⟩ (.slice (some ⟨g, 0, none⟩) n c)) fs (.slice (some ⟨g, 0, none⟩) n c) vs ∧
      SlAt (W.setCell ⟨R, 0, none⟩ (.slice (some ⟨g, 0, none⟩) n c)) (Free w0.heap.size (rv R :: .slice (some ⟨g, 0, none⟩) n c :: vs)) v f.acc := by
  obtain ⟨sv, hsv⟩ : ∃ sv, Value.slice (some ⟨g, 0, none⟩) (n + 1) c = sv := ⟨_, rfl⟩
  obtain ⟨sw, hsw⟩ : ∃ sw, Value.slice (some ⟨g, 0, none⟩) n c = sw := ⟨_, rfl⟩
  have hob : sw.ownBlock = sv.ownBlock := by rw [← hsv, ← hsw]; rfl
  have hst := h.stack
  have hst2 : W.ownsRow w0.heap.size 38 5 sw n (stackC fs vs) := by
    rw [← hsw]
    refine ownsRow_pop (last := sx5 f.l f.t v) (by rw [stackC_len h.rows.2, hn]) ?_
    simpa [stackC, hn] using hst
  rw [hsv] at h
  rw [hsw]
  have hap := h.apart
  simp only [List.pairwise_cons, List.mem_cons, forall_eq_or_imp] at hap
  obtain ⟨⟨a1, a2, a3⟩, ⟨a4, a5⟩, a6, a7⟩ := hap
  have hown := h.own
  have c1 : ∀ u, Ap u sv → Ap u sw := fun u hu j hj => by rw [hob]; exact hu j hj
  have hc : Chg (fun j => j = R) W (W.setCell ⟨R, 0, none⟩ sw) := chg_setCell (S := fun j => j = R) rfl _ _ _
  have hG : ∀ j, Free w0.heap.size (rv R :: sv :: v :: vs) j → j < W.heap.size → Free w0.heap.size (rv R :: sw :: vs) j := by
    rintro j ⟨g1, g2⟩ hj
    refine ⟨g1, fun u hu e => ?_⟩
    simp only [List.mem_cons] at hu
    rcases hu with rfl | rfl | hu
    · exact g2 _ (by simp) e
    · exact g2 sv (by simp) (by rw [← hob]; exact e)
    · exact g2 u (by simp [hu]) e
  have hS : ∀ j, Free w0.heap.size (rv R :: sv :: v :: vs) j → j < W.heap.size → ¬ j = R := by
    rintro j ⟨g1, g2⟩ hj rfl
    exact g2 (rv j) (by simp) rfl
  have hvf : ∀ j, v.ownBlock = some j → Free w0.heap.size (rv R :: sw :: vs) j := by
    intro j hj
    refine ⟨(hown v (by simp) j hj).1, fun u hu e => ?_⟩
    simp only [List.mem_cons] at hu
    rcases hu with rfl | rfl | hu
    · exact a2 j e hj
    · rw [hob] at e
      exact a4 j e hj
    · exact a6 u hu j hj e
  refine ⟨⟨?_, ?_, ?_, ?_, ?_, h.low, hs, by have := h.deep; simp at this; omega, fun x hx => h.few x (by simp [hx]), h.small⟩, ?_⟩
  · rw [heap_setCell_same W R 0 _ _ _ h.head]
    rfl
  · rw [hn]
    exact ownsRow_turn hst2 hc (fun j hj e => a1 j (by rw [e]; rfl) (by rw [← hob]; exact hj))
  · exact h.rows.2.turn hc hS hG (fun u hu j hj e => a3 u hu j (by rw [e]; rfl) hj)
  · simp only [List.pairwise_cons, List.mem_cons, forall_eq_or_imp]
    exact ⟨⟨c1 _ a1, a3⟩, fun u hu => (c1 u (a5 u hu).symm).symm, a7⟩
  · exact h.below.trans (hc.below (fun j hj => by rw [hj]; exact h.low) h.below.size)
  · exact (h.rows.1.slice hG hvf).turn hc (fun j hj _ e => hj.2 (rv R) (by simp) (by rw [e]; rfl)) (fun j hj _ => hj)
end
end Go.Proofs.Ytgojipnhnmigpaa

