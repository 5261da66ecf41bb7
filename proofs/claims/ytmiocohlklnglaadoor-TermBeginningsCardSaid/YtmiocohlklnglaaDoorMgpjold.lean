/- By program out of: DigAdd, DigSub, DigMul. -/
import Derived.Test.YtmiocohlklnglaaDoorMokcpal
import Derived.Deep.LoopGhost
/-
  The document's sum of digits.
-/
set_option linter.unusedVariables false
set_option linter.unusedSimpArgs false
namespace Go.Proofs.YtmiocohlklnglaaDoor
open Go.RowKit Rep

theorem info_int : (Tryd.prog.info? 3).map (fun i => (i.zero, i.size, i.bytes)) = some (some (.int .i64 0), 1, 8) := by kernel_rfl

/-- Digits that are being put together, in memory of their own. -/
def OutD (w wr : World) (a : Option Addr) (c : Nat) (O : List Nat) : Prop := OwnR 3 i64v w.heap.size wr a c O ∧ Below w.heap.size w wr
theorem OutD.start (w : World) : OutD w (w.alloc (.cells #[] 3)) (some ⟨w.heap.size, 0, none⟩) 0 [] :=
  ⟨⟨by simp [maxLen], .inr ⟨w.heap.size, rfl, Nat.le_refl _, Row.new (E := 3) w #[]⟩⟩, (Below.refl _ _).alloc (Nat.le_refl _) _⟩
theorem OutD.grow {w wr w' : World} {a : Option Addr} {c g' cap' d : Nat} {O : List Nat} (h : OutD w wr a c O) (hrow : Row 3 w' g' cap' ((O ++ [d]).map i64v)) (hcap : cap' ≤ maxLen)
    (hgr : (wr.alloc (.cells #[.int .i64 (d : Int)] 3)).grownBy w' (blk a)) (hg' : w.heap.size ≤ g') : OutD w w' (some ⟨g', 0, none⟩) cap' (O ++ [d]) :=
  ⟨⟨hcap, .inr ⟨g', rfl, hg', hrow⟩⟩, (h.2.alloc h.2.size _).grown hgr (by have := h.2.size; simp; omega) (fun k hk => h.1.blk_ge hk)⟩
theorem OutD.ready {w wr : World} {a : Option Addr} {c : Nat} {O : List Nat} (h : OutD w wr a c O) (d : Nat) :
    OwnR 3 i64v w.heap.size (wr.alloc (.cells #[.int .i64 (d : Int)] 3)) a c O ∧ (wr.alloc (.cells #[.int .i64 (d : Int)] 3)).cell? ⟨wr.heap.size, 0, none⟩ = some (i64v d) :=
  ⟨h.1.kept ((Below.refl wr.heap.size wr).alloc (Nat.le_refl _) _), (Row.new (E := 3) wr #[.int .i64 (d : Int)]).cell 0 _ rfl⟩
/-- Behind i digits of a sum. -/
structure AddDIn (xs ys O : List Nat) (i cy : Nat) : Prop where
  len : O.length = i
  dig : Dig 10 O
  cy1 : cy ≤ 1
  sum : val 10 O + 10 ^ i * cy = val 10 (xs.take i) + val 10 (ys.take i)
theorem AddDIn.start (xs ys : List Nat) : AddDIn xs ys [] 0 0 := ⟨rfl, Dig.nil _, by omega, by simp [val]⟩
theorem AddDIn.step {xs ys O : List Nat} {i cy T d cy' : Nat} (h : AddDIn xs ys O i cy) (hx : Dig 10 xs) (hy : Dig 10 ys) (hT : T = cy + xs.getD i 0 + ys.getD i 0) (hd : d = T % 10) (hc : cy' = T / 10) : AddDIn xs ys (O ++ [d]) (i + 1) cy' := by
  have hx1 : xs.getD i 0 < 10 := hx.getD i (by omega)
  have hy1 : ys.getD i 0 < 10 := hy.getD i (by omega)
  have h1 := h.cy1
  refine ⟨by simp [h.len], h.dig.append (Dig.cons (by omega) (Dig.nil _)), by omega, ?_⟩
  rw [val_snoc, h.len, val_take_succ', val_take_succ']
  have h2 := h.sum
  have h3 : 10 ^ i * d + 10 ^ (i + 1) * cy' = 10 ^ i * T := by
    rw [Nat.pow_succ, Nat.mul_assoc, ← Nat.mul_add]
    congr 1
    omega
  have h4 : 10 ^ i * T = 10 ^ i * cy + 10 ^ i * xs.getD i 0 + 10 ^ i * ys.getD i 0 := by rw [hT, Nat.mul_add, Nat.mul_add]
  omega
theorem AddDIn.done {xs ys O : List Nat} {i : Nat} (h : AddDIn xs ys O i 0) (h1 : xs.length ≤ i) (h2 : ys.length ≤ i) : val 10 O = val 10 xs + val 10 ys := by
  have := h.sum
  rw [List.take_of_length_le h1, List.take_of_length_le h2] at this
  omega

theorem D_cons {c : Nat} (h : 0 < c) : D c = (c % 10) :: D (c / 10) := by
  refine (eq_rep (b := 10) (by omega) (Dig.cons (Nat.mod_lt _ (by omega)) (D_dig _)) ?_ ?_).symm
  · by_cases e : c / 10 = 0
    · rw [e, D_zero]; simp [Top]; omega
    · have hne : D (c / 10) ≠ [] := fun h => e (D_nil.1 h)
      have := rep_top (b := 10) (by omega) (c / 10)
      unfold Top at this ⊢
      rwa [List.getLast?_cons_of_ne_nil hne]
  · rw [val_cons, val_D]; omega
theorem D_len_limbs {xs : List Nat} (hx : Lim xs) : (D (V xs)).length ≤ 10 * xs.length := by
  rw [D_len]
  have h1 : V xs < 4294967296 ^ xs.length := val_lt hx
  have h2 : (4294967296 : Nat) ^ xs.length ≤ (10 ^ 10) ^ xs.length := Nat.pow_le_pow_left (by omega) _
  rw [← Nat.pow_mul] at h2
  omega

/-- Behind the limbs from k on. -/
def OfIn (w : World) (xs : List Nat) (k : Nat) (a : Option Addr) (c : Nat) (wr : World) : Prop := OutD w wr a c (D (V (xs.drop k)))
/-- Digits that come behind: c is left of N. -/
def OfTail (w : World) (N cr : Nat) (a : Option Addr) (c : Nat) (P : List Nat) (wr : World) : Prop := OutD w wr a c P ∧ P ++ D cr = D N

theorem OfTail.step {w wr w' : World} {N cr c g' cap' d q : Nat} {a : Option Addr} {P : List Nat} (h : OfTail w N cr a c P wr) (h0 : 0 < cr) (hd : d = cr % 10) (hq : q = cr / 10) (hrow : Row 3 w' g' cap' ((P ++ [d]).map i64v)) (hcap : cap' ≤ maxLen)
    (hgr : (wr.alloc (.cells #[.int .i64 (d : Int)] 3)).grownBy w' (blk a)) (hg' : w.heap.size ≤ g') : OfTail w N q (some ⟨g', 0, none⟩) cap' (P ++ [d]) w' := by
  refine ⟨h.1.grow hrow hcap hgr hg', ?_⟩
  rw [← h.2, D_cons h0, hd, hq, List.append_assoc]
  rfl

end Go.Proofs.YtmiocohlklnglaaDoor


/-
  The document's difference of digits.
-/
set_option linter.unusedVariables false
set_option linter.unusedSimpArgs false
namespace Go.Proofs.YtmiocohlklnglaaDoor
open Go.RowKit Rep

/-- Behind i digits of a difference. -/
structure SubDIn (xs ys O : List Nat) (i b : Nat) : Prop where
  len : O.length = i
  dig : Dig 10 O
  b1 : b ≤ 1
  sum : val 10 O + val 10 (ys.take i) = val 10 (xs.take i) + 10 ^ i * b
theorem SubDIn.start (xs ys : List Nat) : SubDIn xs ys [] 0 0 := ⟨rfl, Dig.nil _, by omega, by simp [val]⟩
theorem SubDIn.step {xs ys O : List Nat} {i b d b' : Nat} (h : SubDIn xs ys O i b) (hd : d < 10) (hb : b' ≤ 1) (hT : d + b + ys.getD i 0 = xs.getD i 0 + 10 * b') : SubDIn xs ys (O ++ [d]) (i + 1) b' := by
  refine ⟨by simp [h.len], h.dig.append (Dig.cons hd (Dig.nil _)), hb, ?_⟩
  rw [val_snoc, h.len, val_take_succ', val_take_succ', Nat.pow_succ]
  have h2 := h.sum
  have h4 : 10 ^ i * d + 10 ^ i * b + 10 ^ i * ys.getD i 0 = 10 ^ i * xs.getD i 0 + 10 ^ i * 10 * b' := by rw [Nat.mul_assoc, ← Nat.mul_add, ← Nat.mul_add, ← Nat.mul_add, hT]
  omega
theorem SubDIn.done {xs ys O : List Nat} {i b : Nat} (h : SubDIn xs ys O i b) (h1 : xs.length = i) (h2 : ys.length ≤ i) (hle : val 10 ys ≤ val 10 xs) : val 10 O = val 10 xs - val 10 ys := by
  have h3 := h.sum
  rw [List.take_of_length_le (l := xs) (by omega), List.take_of_length_le (l := ys) h2] at h3
  have h4 := val_lt h.dig
  rw [h.len] at h4
  have hb := h.b1
  rcases Nat.eq_zero_or_pos b with e | e
  · subst e; rw [Nat.mul_zero] at h3; omega
  · obtain rfl : b = 1 := by omega
    omega

end Go.Proofs.YtmiocohlklnglaaDoor


/-
  The document's product of digits.
-/
set_option linter.unusedVariables false
set_option linter.unusedSimpArgs false
namespace Go.Proofs.YtmiocohlklnglaaDoor
open Go.RowKit Rep

/-- Behind i digits of the first, the product so far. -/
def MulDOut (w : World) (xs ys : List Nat) (i : Nat) (wr : World) : Prop :=
  ∃ Q : List Nat, Row 3 wr w.heap.size (xs.length + ys.length + 1) (Q.map i64v) ∧ Q.length = xs.length + ys.length + 1 ∧ Dig 10 Q ∧ val 10 Q = val 10 (xs.take i) * val 10 ys ∧ (∀ j, i + ys.length ≤ j → Q.getD j 0 = 0) ∧ Below w.heap.size w wr
/-- Within such a digit, behind k of the second. -/
def MulDIn (w : World) (xs ys : List Nat) (i k c : Nat) (wr : World) : Prop :=
  ∃ Q : List Nat, Row 3 wr w.heap.size (xs.length + ys.length + 1) (Q.map i64v) ∧ Q.length = xs.length + ys.length + 1 ∧ Dig 10 Q ∧ val 10 Q + 10 ^ (i + k) * c = val 10 (xs.take i) * val 10 ys + 10 ^ i * (xs.getD i 0 * val 10 (ys.take k)) ∧
    (∀ j, i + max k ys.length ≤ j → Q.getD j 0 = 0) ∧ c ≤ 9 ∧ (k ≤ ys.length ∨ (k = ys.length + 1 ∧ c = 0)) ∧ Below w.heap.size w wr

theorem MulDOut.start (w : World) (xs ys : List Nat) : MulDOut w xs ys 0 (w.alloc (.cells (zrow .i64 (xs.length + ys.length + 1)) 3)) := by
  refine ⟨List.replicate (xs.length + ys.length + 1) 0, ?_, by simp, Dig.replicate _ _ _ (by omega), by simp [val_zeros, val], fun j _ => ?_, (Below.refl _ _).alloc (Nat.le_refl _) _⟩
  · have := Row.zrow (E := 3) .i64 w (xs.length + ys.length + 1)
    rw [List.map_replicate]
    exact this
  · simp [List.getD_eq_getElem?_getD, List.getElem?_replicate]; split <;> rfl
theorem MulDOut.enter {w wr : World} {xs ys : List Nat} {i : Nat} (h : MulDOut w xs ys i wr) : MulDIn w xs ys i 0 0 wr := by
  obtain ⟨Q, h1, h2, h3, h4, h5, h6⟩ := h
  exact ⟨Q, h1, h2, h3, by simp [val, h4], fun j hj => h5 j (by omega), by omega, .inl (by omega), h6⟩
theorem MulDIn.leave {w wr : World} {xs ys : List Nat} {i k : Nat} (h : MulDIn w xs ys i k 0 wr) (hk : ys.length ≤ k) : MulDOut w xs ys (i + 1) wr := by
  obtain ⟨Q, h1, h2, h3, h4, h5, h6, h7, h8⟩ := h
  refine ⟨Q, h1, h2, h3, ?_, fun j hj => h5 j (by omega), h8⟩
  rw [List.take_of_length_le hk, Nat.mul_zero, Nat.add_zero] at h4
  rw [h4, val_take_succ', Nat.add_mul, Nat.mul_assoc]
theorem MulDIn.step {w wr : World} {xs ys : List Nat} {i k c : Nat} (h : MulDIn w xs ys i k c wr) (hy : Dig 10 ys) (hx : Dig 10 xs) (hi : i < xs.length) (hgo : k < ys.length ∨ 0 < c) :
    ∃ q : Nat, q < 10 ∧ c ≤ 9 ∧ k ≤ ys.length ∧ wr.cell? ⟨w.heap.size, i + k, none⟩ = some (.int .i64 (q : Int)) ∧ wr.frozen? ⟨w.heap.size, i + k, none⟩ = false ∧
      ∀ T d c' : Nat, T = q + c + xs.getD i 0 * ys.getD k 0 → d = T % 10 → c' = T / 10 → MulDIn w xs ys i (k + 1) c' (wr.setCell ⟨w.heap.size, i + k, none⟩ (.int .i64 (d : Int))) := by
  obtain ⟨Q, h1, h2, h3, h4, h5, h6, h7, h8⟩ := h
  have hk : k ≤ ys.length := by omega
  have hjl : i + k < Q.length := by omega
  refine ⟨Q.getD (i + k) 0, h3.getD _ (by omega), h6, hk, h1.cell _ _ (map_getElem? hjl), h1.frozen _, fun T d c' hT hd hc => ?_⟩
  have hq9 : Q.getD (i + k) 0 ≤ 9 := by have := h3.getD (i + k) (by omega); omega
  have hp : xs.getD i 0 * ys.getD k 0 ≤ 81 := by
    have a1 : xs.getD i 0 ≤ 9 := by have := hx.getD i (by omega); omega
    have a2 : ys.getD k 0 ≤ 9 := by have := hy.getD k (by omega); omega
    exact Nat.mul_le_mul a1 a2
  refine ⟨Q.set (i + k) d, ?_, by simpa using h2, h3.set _ _ (by omega), ?_, fun j hj => ?_, by omega, ?_, h8.setCell (by simp) _⟩
  · have := h1.set (i + k) (i64v d)
    rw [← List.map_set] at this
    exact this
  · have e1 := val_set 10 Q (i + k) d hjl
    rw [val_take_succ', show i + (k + 1) = i + k + 1 from rfl, Nat.pow_succ, Nat.mul_assoc (10 ^ (i + k))]
    have e2 : 10 ^ (i + k) * d + 10 ^ (i + k) * (10 * c') = 10 ^ (i + k) * T := by rw [← Nat.mul_add]; congr 1; omega
    have e3 : 10 ^ (i + k) * T = 10 ^ (i + k) * Q.getD (i + k) 0 + 10 ^ (i + k) * c + 10 ^ (i + k) * (xs.getD i 0 * ys.getD k 0) := by rw [hT, Nat.mul_add, Nat.mul_add]
    have e4 : 10 ^ (i + k) * (xs.getD i 0 * ys.getD k 0) = 10 ^ i * (xs.getD i 0 * (10 ^ k * ys.getD k 0)) := by rw [Nat.pow_add]; ac_rfl
    have e5 : 10 ^ i * (xs.getD i 0 * (val 10 (ys.take k) + 10 ^ k * ys.getD k 0)) = 10 ^ i * (xs.getD i 0 * val 10 (ys.take k)) + 10 ^ i * (xs.getD i 0 * (10 ^ k * ys.getD k 0)) := by rw [Nat.mul_add, Nat.mul_add]
    omega
  · rw [Rep.getD_set_ne (by omega)]
    exact h5 j (by omega)
  · rcases Nat.lt_or_ge k ys.length with hl | hl
    · exact .inl (by omega)
    · obtain rfl : k = ys.length := by omega
      have z1 : Q.getD (i + ys.length) 0 = 0 := h5 _ (by omega)
      have z2 : ys.getD ys.length 0 = 0 := getD_ge (Nat.le_refl _)
      rw [z1, z2, Nat.mul_zero] at hT
      exact .inr ⟨rfl, by omega⟩

theorem MulDIn.of_eq {w W W' : World} {xs ys : List Nat} {i k c : Nat} (h : MulDIn w xs ys i k c W) (e1 : W'.heap = W.heap) (e2 : W'.os = W.os) (e3 : W'.tape = W.tape) (e4 : W'.output = W.output) : MulDIn w xs ys i k c W' := by
  obtain ⟨Q, h1, h2, h3, h4, h5, h6, h7, h8⟩ := h
  exact ⟨Q, h1.of_block (by rw [e1]), h2, h3, h4, h5, h6, h7, ⟨e2.trans h8.os, e3.trans h8.tape, e4.trans h8.output, by rw [e1]; exact h8.size, fun j hj => by rw [e1]; exact h8.block j hj⟩⟩

end Go.Proofs.YtmiocohlklnglaaDoor

