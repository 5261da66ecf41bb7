/-
  Layer 17: a queue and the document's, side by side.
-/
import Derived.Test.YtkepengljbeipaaQuSt
set_option linter.unusedVariables false
set_option linter.unusedSimpArgs false
namespace Go.Proofs.Ytkepengljbeipaa
open Go.RowKit Qu

/-- A queue and the document's. -/
def Both (w0 : World) (b s h n r t g : Nat) (sc : List Int) (ins : List Bool) (W : World) : Prop :=
  ∃ l len, St w0 W b s h n sc l len ∧ RQ W r t g n sc ins ∧ InB l len ins ∧ (∀ j, RFoot r t g j → ¬ Foot b s h j) ∧ ∀ j, RFoot r t g j → w0.heap.size ≤ j
section
variable {w0 W W' : World} {b s h n r t g : Nat} {sc : List Int} {ins : List Bool}
theorem Both.kept (x : Both w0 b s h n r t g sc ins W) (hb : Below W.heap.size W W') : Both w0 b s h n r t g sc ins W' := by
  obtain ⟨l, len, st, rq, h1, h2, h3⟩ := x
  exact ⟨l, len, st.kept hb, rq.kept hb, h1, h2, h3⟩
theorem Both.below (x : Both w0 b s h n r t g sc ins W) : Below w0.heap.size w0 W := by
  obtain ⟨l, len, st, _⟩ := x
  exact st.below
theorem Both.n60 (x : Both w0 b s h n r t g sc ins W) : n ≤ 60 := by
  obtain ⟨l, len, st, _⟩ := x
  exact st.small
/-- The document's queue is another's. -/
theorem Both.rq_apart {l : List Int} {len : Nat} {v : Value} {P : List Int → List Int → Nat → Prop} {e : Ending} (rq : RQ W r t g n sc ins) (h2 : ∀ j, RFoot r t g j → ¬ Foot b s h j) (k : Acts v P w0 b s h n W e W') : RQ W' r t g n sc ins :=
  rq.apart k.2.choose_spec.choose_spec.choose_spec.2.1 h2
theorem St.flag {sc' l : List Int} {len : Nat} (st : St w0 W b s h n sc' l len) (k : Nat) (x : Value) (hg : w0.heap.size ≤ g) (hn : ¬ Foot b s h g) : St w0 (W.setCell ⟨g, k, none⟩ x) b s h n sc' l len := by
  have h1 : b ≠ g := fun e => hn (.inl e.symm)
  have h2 : s ≠ g := fun e => hn (.inr (.inl e.symm))
  have h3 : h ≠ g := fun e => hn (.inr (.inr e.symm))
  exact ⟨⟨(heap_setCell_other _ _ _ _ h1).trans st.q.head, st.q.rows.past (heap_setCell_other _ _ _ _ h2) (heap_setCell_other _ _ _ _ h3), st.q.le⟩, st.rt, st.own, st.below.setCell hg _, st.small⟩
theorem gIn {r t g : Nat} : RFoot r t g g := .inr (.inr rfl)
theorem tIn {r t g : Nat} : RFoot r t g t := .inr (.inl rfl)
theorem inb_set {l l' : List Int} {len len' v : Nat} {y : Bool} (hI : InB l len ins) (hv : v < ins.length) (hs : Mem l' len' (v : Int) ↔ y = true) (ho : ∀ u : Int, u ≠ (v : Int) → (Mem l' len' u ↔ Mem l len u)) : InB l' len' (ins.set v y) := fun u hu => by
  rw [List.length_set] at hu
  rw [elb_set hv]
  by_cases c : u = v
  · subst c
    rw [if_pos rfl]
    exact hs.symm
  · rw [if_neg c, ho u (by omega)]
    exact hI u hu
/-- What a call makes of the two, where a flag is still to be set. -/
def FlagB (v : Value) (k : Nat) (y : Bool) (w0 : World) (b s h n r t g : Nat) (sc : List Int) (ins : List Bool) (W : World) (e : Ending) (W' : World) : Prop :=
  e = .returned v ∧ Chg (Foot b s h) W W' ∧ RQ W' r t g n sc ins ∧ ∀ W2, Below W'.heap.size W' W2 → Both w0 b s h n r t g sc (ins.set k y) (W2.setCell ⟨g, k, none⟩ (.bool y))
theorem Both.push (x : Both w0 b s h n r t g sc ins W) (v : Nat) (hv : v < n) : Calls Try.prog 8 #[.pointer (some ⟨b, 0, none⟩), .int .i64 (v : Int)] W (FlagB (.int .i64 0) v true w0 b s h n r t g sc ins W) := by
  obtain ⟨l, len, st, rq, h1, h2, h3⟩ := x
  refine (st.push (v : Int) (by omega) (by omega)).mono fun e W' k => ?_
  have rq' := Both.rq_apart (l := l) (len := len) rq h2 k
  obtain ⟨he, sc', l', len', st', hc, rfl, hm⟩ := k
  refine ⟨he, hc, rq', fun W2 z => ⟨l', len', (st'.kept z).flag v _ (h3 g gIn) (h2 g gIn), (rq'.kept z).setFlag v true, inb_set h1 (by rw [rq.li]; exact hv) ?_ (fun u hu => ?_), h2, h3⟩⟩
  · rw [hm]; simp
  · rw [hm]
    exact ⟨fun e => e.elim id (fun e => absurd e hu), .inl⟩
theorem Both.push_out (x : Both w0 b s h n r t g sc ins W) (v : Int) (hv : v < 0 ∨ (n : Int) ≤ v) : Calls Try.prog 8 #[.pointer (some ⟨b, 0, none⟩), .int .i64 v] W (GivesV (.int .i64 2) W) := by
  obtain ⟨l, len, st, _⟩ := x
  exact Push_out st.q v hv
theorem Both.pop (x : Both w0 b s h n r t g sc ins W) : (∃ v : Nat, v < n ∧ first sc ins n = (v : Int) ∧ Calls Try.prog 9 #[.pointer (some ⟨b, 0, none⟩)] W (FlagB (.tuple #[.int .i64 (v : Int), .bool true]) v false w0 b s h n r t g sc ins W)) ∨
    (first sc ins n = -1 ∧ Calls Try.prog 9 #[.pointer (some ⟨b, 0, none⟩)] W fun e W' => e = .returned (.tuple #[.int .i64 0, .bool false]) ∧ W = W') := by
  obtain ⟨l, len, st, rq, h1, h2, h3⟩ := x
  have hf := st.rt.first (ins := ins) (by rw [rq.li, st.q.rows.ls]) h1
  rw [rq.li] at hf
  by_cases h0 : len = 0
  · subst h0
    rw [if_pos rfl] at hf
    exact .inr ⟨hf, Pop_none st.q⟩
  · rw [if_neg h0] at hf
    have hr := st.rng 0 (by omega)
    obtain ⟨v, hv⟩ : ∃ v : Nat, el l 0 = (v : Int) := ⟨(el l 0).toNat, by omega⟩
    have hp := st.pop (by omega)
    rw [hv] at hf hp
    refine .inl ⟨v, by omega, hf, hp.mono fun e W' k => ?_⟩
    have rq' := Both.rq_apart (l := l) (len := len) rq h2 k
    obtain ⟨he, sc', l', len', st', hc, rfl, rfl, hm⟩ := k
    refine ⟨he, hc, rq', fun W2 z => ⟨l', _, (st'.kept z).flag v _ (h3 g gIn) (h2 g gIn), (rq'.kept z).setFlag v false, inb_set h1 (by rw [rq.li]; omega) ?_ (fun u hu => ?_), h2, h3⟩⟩
    · rw [hm, hv]; simp
    · rw [hm, hv]
      exact ⟨fun e => e.1, fun e => ⟨e, hu⟩⟩
theorem Both.first (x : Both w0 b s h n r t g sc ins W) (W1 : World) (rq : RQ W1 r t g n sc ins) : Calls Try.prog 10 #[.pointer (some ⟨r, 0, none⟩)] W1 (GivesV (.int .i64 (first sc ins n)) W1) := First_any rq x.n60
/-- What the two Bumps say and make. -/
def BumpB (w0 : World) (b s h n r t g : Nat) (sc : List Int) (ins : List Bool) (v : Int) (y : Int) (W W' : World) : Prop :=
  Calls Try.prog 12 #[.pointer (some ⟨r, 0, none⟩), .int .i64 v, .int .i64 y] W' fun e W2 => e = .returned (.int .i64 0) ∧ ∃ sc', Chg (RFoot r t g) W' W2 ∧ Both w0 b s h n r t g sc' ins W2
theorem Both.bump (x : Both w0 b s h n r t g sc ins W) (v y : Int) :
    (∃ E : Int, Calls Try.prog 11 #[.pointer (some ⟨b, 0, none⟩), .int .i64 v, .int .i64 y] W (GivesV (.int .i64 E) W) ∧ ∀ W1, Below W.heap.size W W1 → Calls Try.prog 12 #[.pointer (some ⟨r, 0, none⟩), .int .i64 v, .int .i64 y] W1 fun e W2 => e = .returned (.int .i64 E) ∧ W1 = W2) ∨
    Calls Try.prog 11 #[.pointer (some ⟨b, 0, none⟩), .int .i64 v, .int .i64 y] W (fun e W' => e = .returned (.int .i64 0) ∧ Chg (Foot b s h) W W' ∧ BumpB w0 b s h n r t g sc ins v y W W') := by
  obtain ⟨l, len, st, rq, h1, h2, h3⟩ := x
  by_cases hv : v < 0 ∨ (n : Int) ≤ v
  · exact .inl ⟨2, Bump_out st.q v y hv, fun W1 hb => RBump_out (rq.kept hb) v y hv⟩
  · obtain ⟨u, rfl⟩ : ∃ u : Nat, v = (u : Int) := ⟨v.toNat, by omega⟩
    have hun : u < n := by omega
    have hs := st.rt.scs u (by rw [st.q.rows.ls]; exact hun)
    by_cases hy : y < 0
    · exact .inl ⟨1, Bump_arg st.q u y hun hy, fun W1 hb => RBump_arg (rq.kept hb) u y hun hy⟩
    · by_cases ho : 1152921504606846976 < el sc u + y
      · exact .inl ⟨6, Bump_over st.q u y hun hs ho, fun W1 hb => RBump_over (rq.kept hb) u y hun hs ho⟩
      · refine .inr ((st.bump u y hun (by omega) (by omega)).mono fun e W' k => ?_)
        have rq' := Both.rq_apart (l := l) (len := len) rq h2 k
        obtain ⟨he, sc', l', len', st', hc, rfl, rfl, hm⟩ := k
        refine ⟨he, hc, (RBump_yes rq' u y hun hs.1 (by omega) (by omega)).mono fun e W2 hh => ?_⟩
        obtain ⟨rfl, rfl⟩ := hh
        exact ⟨rfl, bumped sc u y, Chg.set (.refl _ _) tIn u _, l', len', st'.flag u _ (h3 t tIn) (h2 t tIn), rq'.setScore u _, fun q hq => (h1 q hq).trans (hm _).symm, h2, h3⟩
/-- While the document's scores are halved. -/
def HalfB (w0 : World) (b s h n r t g : Nat) (sc : List Int) (ins : List Bool) (k : Nat) (W : World) : Prop :=
  ∃ l len, St w0 W b s h n (halved sc) l len ∧ RQ W r t g n (half sc k) ins ∧ InB l len ins ∧ (∀ j, RFoot r t g j → ¬ Foot b s h j) ∧ (∀ j, RFoot r t g j → w0.heap.size ≤ j) ∧ ∀ v, v < n → 0 ≤ el sc v ∧ el sc v ≤ 1152921504606846976
theorem Both.halve (x : Both w0 b s h n r t g sc ins W) : Calls Try.prog 13 #[.pointer (some ⟨b, 0, none⟩)] W (fun e W' => e = .returned (.tuple #[]) ∧ HalfB w0 b s h n r t g sc ins 0 W') := by
  obtain ⟨l, len, st, rq, h1, h2, h3⟩ := x
  refine st.halve.mono fun e W' k => ?_
  have rq' := Both.rq_apart (l := l) (len := len) rq h2 k
  have hs : ∀ v, v < n → 0 ≤ el sc v ∧ el sc v ≤ 1152921504606846976 := fun v hv => st.rt.scs v (by rw [st.q.rows.ls]; exact hv)
  obtain ⟨he, sc', l', len', st', hc, rfl, rfl, hm⟩ := k
  exact ⟨he, l', len', st', by rw [half_zero]; exact rq', fun q hq => (h1 q hq).trans (hm _).symm, h2, h3, hs⟩
theorem HalfB.step {k : Nat} (x : HalfB w0 b s h n r t g sc ins k W) (hk : k < n) : HalfB w0 b s h n r t g sc ins (k + 1) (W.setCell ⟨t, k, none⟩ (.int .i64 (el sc k / 2))) := by
  obtain ⟨l, len, st, rq, h1, h2, h3, h4⟩ := x
  have := rq.setScore k (el sc k / 2)
  have hl : sc.length = n := by rw [← half_len sc k]; exact rq.ls
  rw [half_set (by rw [hl]; exact hk)] at this
  exact ⟨l, len, st.flag k _ (h3 t tIn) (h2 t tIn), this, h1, h2, h3, h4⟩
theorem HalfB.done (x : HalfB w0 b s h n r t g sc ins n W) : Both w0 b s h n r t g (halved sc) ins W := by
  obtain ⟨l, len, st, rq, h1, h2, h3, h4⟩ := x
  have hl : sc.length = n := by rw [← half_len sc n]; exact rq.ls
  have e : half sc n = halved sc := by rw [← hl]; exact half_all sc
  rw [e] at rq
  exact ⟨l, len, st, rq, h1, h2, h3⟩
/-- What the walk reads. -/
theorem Both.rq (x : Both w0 b s h n r t g sc ins W) : RQ W r t g n sc ins := by
  obtain ⟨l, len, st, rq, _⟩ := x
  exact rq
/-- Right twice, and who is in. -/
structure Looks (w0 : World) (b s h n r t g : Nat) (sc : List Int) (ins : List Bool) (len : Nat) (W : World) : Prop where
  head : Head W b s h n len
  right : ∀ W1, Below W.heap.size W W1 → Calls Try.prog 14 #[qV s h n len] W1 (GivesV (.bool true) W1)
  rright : ∀ W1, Below W.heap.size W W1 → Calls Try.prog 15 #[qV s h n len] W1 (GivesV (.bool true) W1)
  has : ∀ v : Nat, v < n → ∀ W1, Below W.heap.size W W1 → Calls Try.prog 16 #[qV s h n len, .int .i64 (v : Int)] W1 (GivesV (.bool (elb ins v)) W1)
  hasNot : ∀ v : Int, v < 0 ∨ (n : Int) ≤ v → ∀ W1, Below W.heap.size W W1 → Calls Try.prog 16 #[qV s h n len, .int .i64 v] W1 (GivesV (.bool false) W1)
  scores : ∀ v, v < n → W.cell? ⟨s, v, none⟩ = some (.int .i64 (el sc v))
theorem Both.looks (x : Both w0 b s h n r t g sc ins W) : ∃ len, Looks w0 b s h n r t g sc ins len W := by
  obtain ⟨l, len, st, rq, h1, h2, h3⟩ := x
  refine ⟨len, st.q.head, fun W1 z => Right_yes (st.q.kept z).rows st.rt st.small, fun W1 z => RRight_yes (st.q.kept z).rows st.rt st.small, fun v hv W1 z => ?_, fun v hv W1 z => ?_, fun v hv => st.q.sk hv (Below.refl _ _)⟩
  · have hi := h1 v (by rw [rq.li]; exact hv)
    cases he : elb ins v with
    | true => exact Has_yes (st.q.kept z).rows st.q.le v (hi.1 he)
    | false => exact Has_no (st.q.kept z).rows st.q.le v (fun m => by rw [hi.2 m] at he; cases he)
  · refine Has_no (st.q.kept z).rows st.q.le v (fun m => ?_)
    obtain ⟨i, hi, e⟩ := m
    have := st.rng i hi
    omega
end
end Go.Proofs.Ytkepengljbeipaa
