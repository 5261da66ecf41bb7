/- By program out of: RatTold, RatPair, RefDec, RatReads, RatTolds, RatTolds2. -/
import Derived.Test.YtomoemgoglghlaaGreatDoorMikinkk
import Derived.Test.YtomoemgoglghlaaGreatDoorMflfaoc
/-
  The ratio laws' helper told.
-/
set_option linter.unusedVariables false
set_option linter.unusedSimpArgs false
namespace Go.Proofs.YtomoemgoglghlaaGreatDoor
open Go.RowKit Rep

/-- A ratio's raw parts tell q. -/
structure VQ (q : Rat) (v : RawR) (W : World) : Prop where
  e0 : v.1 = ngQ q
  e1 : v.2.1.2.1 = (L (mgQ q)).length
  e2 : v.2.2.2.1 = (L (denN q.den)).length
  lies : AtQ W v.2.1.1 v.2.1.2.2 v.2.2.1 v.2.2.2.2 q
theorem VQ.kept {q : Rat} {v : RawR} {W W' : World} (h : VQ q v W) (hb : Below W.heap.size W W') : VQ q v W' := ⟨h.e0, h.e1, h.e2, h.lies.kept hb⟩
theorem VQ.set3 {q : Rat} {v : RawR} {W : World} {g : Nat} (h : VQ q v W) (hb : Blank W g) (s : Bool) (v1 v2 : Value) : VQ q v (Go.Proofs.YtomoemgoglghlaaGreatDoor.set3 W g s v1 v2) := ⟨h.e0, h.e1, h.e2, h.lies.set3 hb.rat _ _ _⟩

/-- Behind the closure's call. -/
structure T1 (w W0 : World) (b m : Nat) (q : Rat) (x : RawR) (W : World) : Prop where
  vx : VQ (outQ m q) x W
  bench : Bench W b m (ovQ m q)
  below : Below W0.heap.size W0 W
  eb : b = W0.heap.size
/-- Behind both calls. -/
structure T2 (w W0 : World) (b m : Nat) (q : Rat) (x y : RawR) (W : World) : Prop where
  vx : VQ (outQ m q) x W
  vy : VQ q y W
  bench : Bench W b m (ovQ m q)
  below : Below W0.heap.size W0 W
  eb : b = W0.heap.size
section
variable {w W0 W : World} {b m : Nat} {q : Rat} {x y : RawR}
theorem T1.kept {W' : World} (h : T1 w W0 b m q x W) (hb : Below W.heap.size W W') : T1 w W0 b m q x W' := ⟨h.vx.kept hb, h.bench.kept hb, h.below.trans (hb.mono h.below.size), h.eb⟩
theorem T2.kept {W' : World} (h : T2 w W0 b m q x y W) (hb : Below W.heap.size W W') : T2 w W0 b m q x y W' := ⟨h.vx.kept hb, h.vy.kept hb, h.bench.kept hb, h.below.trans (hb.mono h.below.size), h.eb⟩
theorem T2.alloc (h : T2 w W0 b m q x y W) (o : Obj) : T2 w W0 b m q x y (W.alloc o) := h.kept ((Below.refl _ _).alloc (Nat.le_refl _) _)
theorem T2.set3 {g : Nat} (h : T2 w W0 b m q x y W) (hb : Blank W g) (hg : W0.heap.size < g) (s : Bool) (v1 v2 : Value) : T2 w W0 b m q x y (Go.Proofs.YtomoemgoglghlaaGreatDoor.set3 W g s v1 v2) :=
  ⟨h.vx.set3 hb _ _ _, h.vy.set3 hb _ _ _, h.bench.set3 (by have := h.eb; omega) _ _ _, set3_below h.below (by omega), h.eb⟩

/-- Where a ratio's parts lie. -/
def LiesR (v : RawR) (g : Nat) (W : World) : Prop := W.heap[g]? = some (.cells #[.bool v.1, .slice v.2.1.1 v.2.1.2.1 v.2.1.2.2, .slice v.2.2.1 v.2.2.2.1 v.2.2.2.2] 27 (0, 0))
theorem LiesR.kept {v : RawR} {g : Nat} {W W' : World} (h : LiesR v g W) (hb : Below W.heap.size W W') : LiesR v g W' := (hb.block _ (Array.getElem?_eq_some_iff.1 h).1).trans h
theorem LiesR.new (v : RawR) (W : World) : LiesR v W.heap.size (W.alloc (.cells #[.bool v.1, .slice v.2.1.1 v.2.1.2.1 v.2.1.2.2, .slice v.2.2.1 v.2.2.2.1 v.2.2.2.2] 27)) := heap_alloc_new W _
theorem LiesR.alloc {v : RawR} {g : Nat} {W : World} (h : LiesR v g W) (o : Obj) : LiesR v g (W.alloc o) := h.kept ((Below.refl _ _).alloc (Nat.le_refl _) _)
theorem LiesR.put {g : Nat} {W : World} (h : Blank W g) (v : RawR) : LiesR v g (set3 W g v.1 (.slice v.2.1.1 v.2.1.2.1 v.2.1.2.2) (.slice v.2.2.1 v.2.2.2.1 v.2.2.2.2)) := by
  unfold Blank at h
  simp [LiesR, set3, World.setCell, Array.getElem?_modify, h]
theorem LiesR.past {v : RawR} {g k : Nat} {W : World} (h : LiesR v g W) (hne : g ≠ k) (s : Bool) (v1 v2 : Value) : LiesR v g (set3 W k s v1 v2) :=
  ((set3_grown W k s v1 v2).block _ (Array.getElem?_eq_some_iff.1 h).1 (by simpa using hne)).trans h
theorem Blank.past {g k : Nat} {W : World} (h : Blank W g) (hne : g ≠ k) (s : Bool) (v1 v2 : Value) : Blank (set3 W k s v1 v2) g :=
  ((set3_grown W k s v1 v2).block _ (Array.getElem?_eq_some_iff.1 h).1 (by simpa using hne)).trans h
theorem set3_size (W : World) (r : Nat) (s : Bool) (v1 v2 : Value) : (set3 W r s v1 v2).heap.size = W.heap.size := by simp [set3, World.setCell]

/-- Behind the region: where both answers lie. -/
structure ToldAt (w W0 : World) (b m : Nat) (q : Rat) (i : Nat × Nat × RawR × RawR) (W : World) : Prop where
  x : LiesR i.2.2.1 i.1 W
  y : LiesR i.2.2.2 i.2.1 W
  t : T2 w W0 b m q i.2.2.1 i.2.2.2 W

theorem T2.end0a (h : T2 w W0 b m q x y W) : ToldAt w W0 b m q (W.heap.size, W.heap.size + 1, x, y) ((W.alloc (.cells #[.bool x.1, .slice x.2.1.1 x.2.1.2.1 x.2.1.2.2, .slice x.2.2.1 x.2.2.2.1 x.2.2.2.2] 27)).alloc (.cells #[.bool y.1, .slice y.2.1.1 y.2.1.2.1 y.2.1.2.2, .slice y.2.2.1 y.2.2.2.1 y.2.2.2.2] 27)) :=
  ⟨(LiesR.new x W).alloc _, by simpa using LiesR.new y (W.alloc (.cells #[.bool x.1, .slice x.2.1.1 x.2.1.2.1 x.2.1.2.2, .slice x.2.2.1 x.2.2.2.1 x.2.2.2.2] 27)), (h.alloc _).alloc _⟩
theorem T2.end0b (h : T2 w W0 b m q x y W) : ToldAt w W0 b m q (W.heap.size + 1, W.heap.size, x, y) ((W.alloc (.cells #[.bool y.1, .slice y.2.1.1 y.2.1.2.1 y.2.1.2.2, .slice y.2.2.1 y.2.2.2.1 y.2.2.2.2] 27)).alloc (.cells #[.bool x.1, .slice x.2.1.1 x.2.1.2.1 x.2.1.2.2, .slice x.2.2.1 x.2.2.2.1 x.2.2.2.2] 27)) :=
  ⟨by simpa using LiesR.new x (W.alloc (.cells #[.bool y.1, .slice y.2.1.1 y.2.1.2.1 y.2.1.2.2, .slice y.2.2.1 y.2.2.2.1 y.2.2.2.2] 27)), (LiesR.new y W).alloc _, (h.alloc _).alloc _⟩
theorem T2.end1a {g : Nat} (h : T2 w W0 b m q x y W) (hb : Blank W g) (hg : W0.heap.size < g) : ToldAt w W0 b m q (g, W.heap.size, x, y) ((Go.Proofs.YtomoemgoglghlaaGreatDoor.set3 W g x.1 (.slice x.2.1.1 x.2.1.2.1 x.2.1.2.2) (.slice x.2.2.1 x.2.2.2.1 x.2.2.2.2)).alloc (.cells #[.bool y.1, .slice y.2.1.1 y.2.1.2.1 y.2.1.2.2, .slice y.2.2.1 y.2.2.2.1 y.2.2.2.2] 27)) :=
  ⟨(LiesR.put hb x).alloc _, by have := LiesR.new y (Go.Proofs.YtomoemgoglghlaaGreatDoor.set3 W g x.1 (.slice x.2.1.1 x.2.1.2.1 x.2.1.2.2) (.slice x.2.2.1 x.2.2.2.1 x.2.2.2.2)); rwa [set3_size] at this, (h.set3 hb hg _ _ _).alloc _⟩
theorem T2.end1b {g : Nat} (h : T2 w W0 b m q x y W) (hb : Blank W g) (hg : W0.heap.size < g) : ToldAt w W0 b m q (W.heap.size, g, x, y) ((Go.Proofs.YtomoemgoglghlaaGreatDoor.set3 W g y.1 (.slice y.2.1.1 y.2.1.2.1 y.2.1.2.2) (.slice y.2.2.1 y.2.2.2.1 y.2.2.2.2)).alloc (.cells #[.bool x.1, .slice x.2.1.1 x.2.1.2.1 x.2.1.2.2, .slice x.2.2.1 x.2.2.2.1 x.2.2.2.2] 27)) :=
  ⟨by have := LiesR.new x (Go.Proofs.YtomoemgoglghlaaGreatDoor.set3 W g y.1 (.slice y.2.1.1 y.2.1.2.1 y.2.1.2.2) (.slice y.2.2.1 y.2.2.2.1 y.2.2.2.2)); rwa [set3_size] at this, (LiesR.put hb y).alloc _, (h.set3 hb hg _ _ _).alloc _⟩
theorem T2.end2 {g k : Nat} (h : T2 w W0 b m q x y W) (hb : Blank W g) (hk : Blank W k) (hne : g ≠ k) (hg : W0.heap.size < g) (hg2 : W0.heap.size < k) :
    ToldAt w W0 b m q (g, k, x, y) (Go.Proofs.YtomoemgoglghlaaGreatDoor.set3 (Go.Proofs.YtomoemgoglghlaaGreatDoor.set3 W g x.1 (.slice x.2.1.1 x.2.1.2.1 x.2.1.2.2) (.slice x.2.2.1 x.2.2.2.1 x.2.2.2.2)) k y.1 (.slice y.2.1.1 y.2.1.2.1 y.2.1.2.2) (.slice y.2.2.1 y.2.2.2.1 y.2.2.2.2)) :=
  ⟨(LiesR.put hb x).past hne _ _ _, LiesR.put (hk.past (Ne.symm hne) _ _ _) y, (h.set3 hb hg _ _ _).set3 (hk.past (Ne.symm hne) _ _ _) hg2 _ _ _⟩
end

/-- The closure's call, in any world of the region. -/
theorem told_do2 {w W0 w1 W : World} {b m : Nat} {q : Rat} {f : FuncId} {p1 p2 : Value} (hw : Below w.heap.size w W0) (eb : b = W0.heap.size) (hb : Bench w1 b m false) (h1 : Below W0.heap.size W0 w1)
    (hdo : ∀ (W : World) (b : Nat), Below w.heap.size w W → Bench W b m false → w.heap.size ≤ b → Calls Tryz.prog f #[.pointer (some ⟨b, 0, none⟩), p1, p2] W (GivesQ b m q W)) (hW : Below w1.heap.size w1 W) :
    Calls Tryz.prog f #[.pointer (some ⟨b, 0, none⟩), p1, p2] W fun e W' => ∃ s x1 l1 k1 x2 l2 k2, e = .returned (.agg #[.bool s, .slice x1 l1 k1, .slice x2 l2 k2]) ∧ Hid (T1 w W0 b m q (s, (x1, l1, k1), (x2, l2, k2)) W') ∧ Hid (W.grownBy W' (some b)) := by
  have hB : Below W0.heap.size W0 W := h1.trans (hW.mono h1.size)
  refine (hdo W b (hw.trans (hB.mono hw.size)) (hb.kept hW) (by have := hw.size; omega)).mono ?_
  rintro e W' ⟨x1, k1, x2, k2, rfl, hx, hbe, hg⟩
  refine ⟨_, x1, _, k1, x2, _, k2, rfl, Lib.hid ⟨⟨rfl, rfl, rfl, hx⟩, hbe, ?_, eb⟩, Lib.hid hg⟩
  exact hB.grown hg hB.size (fun k hk => by cases hk; omega)
/-- The document's form, behind it. -/
theorem told_form {w W0 w3 W : World} {b m : Nat} {q : Rat} {x : RawR} {a1 a2 : Option Addr} {c1 c2 : Nat} (h : T1 w W0 b m q x w3) (hq : DgQ W0 a1 c1 a2 c2 q) (l1 : (D (mgQ q)).length ≤ 1000000) (l2 : (D q.den).length ≤ 1000000) (hW : Below w3.heap.size w3 W) :
    Calls Tryz.prog 33 #[.agg #[.bool (ngQ q), .slice a1 (D (mgQ q)).length c1, .slice a2 (D q.den).length c2]] W fun e W' => ∃ s y1 l1 k1 y2 l2 k2, e = .returned (.agg #[.bool s, .slice y1 l1 k1, .slice y2 l2 k2]) ∧ Hid (T2 w W0 b m q x (s, (y1, l1, k1), (y2, l2, k2)) W') ∧ Hid (Below W.heap.size W W') := by
  have h' := h.kept hW
  have hq' := hq.kept h'.below
  refine (Form_q (s := ngQ q) hq'.num hq'.den (den_pos q) l1 l2).mono ?_
  rw [mkQ_self]
  rintro e W' ⟨y1, k1, y2, k2, rfl, hy, hb⟩
  exact ⟨_, y1, _, k1, y2, _, k2, rfl, Lib.hid ⟨h'.vx.kept hb, ⟨rfl, rfl, rfl, hy⟩, h'.bench.kept hb, h'.below.trans (hb.mono h'.below.size), h'.eb⟩, Lib.hid hb⟩
/-- As every bench is made. -/
theorem new_for (n : Int) (h : n ≤ 9223372036854775807) : ∃ m : Nat, 1 ≤ m ∧ m ≤ maxLen ∧ max n 1 = (m : Int) ∧ ∀ w, Calls Tryz.prog 41 #[.int .i64 n] w (GivesBench m w) := by
  by_cases h1 : n < 1
  · exact ⟨1, by omega, by unfold maxLen; omega, by omega, fun w => new_low n w h1⟩
  · obtain ⟨m, rfl⟩ : ∃ m : Nat, n = (m : Int) := ⟨n.toNat, by omega⟩
    exact ⟨m, by omega, by unfold maxLen; omega, by omega, fun w => new_high m w (by omega) (by unfold maxLen; omega)⟩
theorem T1.lt {w W0 W : World} {b m : Nat} {q : Rat} {x : RawR} (h : T1 w W0 b m q x W) : W0.heap.size < W.heap.size := by have := h.bench.lt; have := h.eb; omega
theorem T2.lt {w W0 W : World} {b m : Nat} {q : Rat} {x y : RawR} (h : T2 w W0 b m q x y W) : W0.heap.size < W.heap.size := by have := h.bench.lt; have := h.eb; omega
theorem told_fits {w W0 W : World} {b m : Nat} {q : Rat} {x : RawR} {s : Bool} {y1 y2 : Option Addr} {l1 k1 l2 k2 : Nat} (h : T2 w W0 b m q x (s, (y1, l1, k1), (y2, l2, k2)) W) (hm : m ≤ 9223372036854775807) (hs : szQ q ≤ 10000) (W1 : World) :
    Calls Tryz.prog 48 #[.agg #[.bool s, .slice y1 l1 k1, .slice y2 l2 k2], .int .i64 (m : Int)] W1 (GivesB (!(ovQ m q)) W1) := by
  have e1 := h.vy.e1
  have e2 := h.vy.e2
  dsimp only at e1 e2
  unfold szQ at hs
  have := Fits_any (w := W1) (s := s) (a1 := y1) (a2 := y2) (l1 := l1) (c1 := k1) (l2 := l2) (c2 := k2) (m := m) (by omega) (by omega) hm
  rw [e1, e2] at this ⊢
  exact this
theorem told_zero {w W0 W : World} {b m : Nat} {q : Rat} {y : RawR} {s : Bool} {y1 y2 : Option Addr} {l1 k1 l2 k2 : Nat} (h : T2 w W0 b m q (s, (y1, l1, k1), (y2, l2, k2)) y W) (ho : ovQ m q = true) (W1 : World) :
    Calls Tryz.prog 31 #[.agg #[.bool s, .slice y1 l1 k1, .slice y2 l2 k2], .agg #[.bool false, .slice none 0 0, .slice none 0 0]] W1 (GivesB true W1) := by
  have e0 := h.vx.e0
  have e1 := h.vx.e1
  have e2 := h.vx.e2
  have hq : outQ m q = 0 := by unfold outQ; rw [if_pos ho]
  rw [hq] at e0 e1 e2
  dsimp only at e0 e1 e2
  have z0 : ngQ 0 = false := by decide
  have z1 : (L (mgQ 0)).length = 0 := rfl
  have z2 : (L (denN (0 : Rat).den)).length = 0 := rfl
  rw [z0] at e0
  rw [z1] at e1
  rw [z2] at e2
  subst e0 e1 e2
  have := SameR_any false false y1 y2 none none k1 k2 0 0 [] [] [] [] W1 (.inl rfl) (.inl rfl) (.inl rfl) (.inl rfl) (by simp) (by simp)
  simpa [ratV] using this
theorem told_same {w W0 W : World} {b m : Nat} {q : Rat} {s t : Bool} {x1 x2 y1 y2 : Option Addr} {l1 k1 l2 k2 n1 j1 n2 j2 : Nat} (h : T2 w W0 b m q (s, (x1, l1, k1), (x2, l2, k2)) (t, (y1, n1, j1), (y2, n2, j2)) W) (ho : ovQ m q = false) (hs : szQ q ≤ 10000) (W1 : World) (hW : Below W.heap.size W W1) :
    Calls Tryz.prog 31 #[.agg #[.bool s, .slice x1 l1 k1, .slice x2 l2 k2], .agg #[.bool t, .slice y1 n1 j1, .slice y2 n2 j2]] W1 (GivesB true W1) := by
  have e0 := h.vx.e0
  have e1 := h.vx.e1
  have e2 := h.vx.e2
  have f0 := h.vy.e0
  have f1 := h.vy.e1
  have f2 := h.vy.e2
  have hx := h.vx.lies.kept hW
  have hy := h.vy.lies.kept hW
  have hq : outQ m q = q := by unfold outQ; rw [if_neg (by simp [ho])]
  rw [hq] at e0 e1 e2 hx
  dsimp only at e0 e1 e2 f0 f1 f2 hx hy
  subst e0 e1 e2 f0 f1 f2
  unfold szQ at hs
  have := SameR_any (ngQ q) (ngQ q) x1 x2 y1 y2 k1 k2 j1 j2 (L (mgQ q)) (L (denN q.den)) (L (mgQ q)) (L (denN q.den)) W1 hx.num.1 hx.den.1 hy.num.1 hy.den.1 (by omega) (by omega)
  simpa [ratV] using this
theorem OnlyEx.mk' {ι : Type} {A : ι → Act} {R : ι → World → Prop} {a : Act} {w : World} (h : ∃ i, a = A i ∧ R i w) : OnlyEx A R .normal a w := h
theorem Blank.ne {W : World} {g : Nat} (h : Blank W g) : g ≠ W.heap.size ∧ W.heap.size ≠ g ∧ g < W.heap.size := by
  have := (Array.getElem?_eq_some_iff.1 h).1
  omega
theorem far {w W0 W : World} (h : w.heap.size < W0.heap.size) (hb : Below W0.heap.size W0 W) : w.heap.size ≠ W.heap.size ∧ W.heap.size ≠ w.heap.size ∧ w.heap.size ≠ W.heap.size + 1 ∧ W.heap.size + 1 ≠ w.heap.size := by
  have := hb.size
  omega
theorem blank_second {W : World} (wa : World) (h : Below ((wa.alloc (.cells #[.bool false, .slice none 0 0, .slice none 0 0] 27)).alloc (.cells #[.bool false, .slice none 0 0, .slice none 0 0] 27)).heap.size ((wa.alloc (.cells #[.bool false, .slice none 0 0, .slice none 0 0] 27)).alloc (.cells #[.bool false, .slice none 0 0, .slice none 0 0] 27)) W) : Blank W (wa.heap.size + 1) := by
  refine Blank.kept ?_ h
  have := heap_alloc_new (wa.alloc (.cells #[.bool false, .slice none 0 0, .slice none 0 0] 27)) (.cells #[.bool false, .slice none 0 0, .slice none 0 0] 27)
  simpa [Blank] using this

end Go.Proofs.YtomoemgoglghlaaGreatDoor

/-
  Two of the document's ratios, in blocks of their own.
-/
set_option linter.unusedVariables false
set_option linter.unusedSimpArgs false
namespace Go.Proofs.YtomoemgoglghlaaGreatDoor
open Go.RowKit Rep


theorem D_of_L {n k : Nat} (h : (L n).length ≤ k) : (D n).length ≤ 10 * k := by
  rw [D_len]
  rw [L_len] at h
  refine Nat.lt_of_lt_of_le h ?_
  rw [Nat.pow_mul]
  exact Nat.pow_le_pow_left (by decide) k
theorem dl_q {q : Rat} {k : Nat} (h : szQ q ≤ k) : (D (mgQ q)).length ≤ 10 * k ∧ (D q.den).length ≤ 10 * (k + 1) := by
  obtain ⟨h1, h2⟩ := szQ_parts q
  exact ⟨D_of_L (by omega), D_of_L (by omega)⟩
theorem szQ_inv {x : Rat} : szQ x⁻¹ ≤ szQ x + 1 := by
  by_cases hx : x = 0
  · subst hx
    rw [show ((0 : Rat)⁻¹) = 0 from by grind]
    omega
  · obtain ⟨h1, h2⟩ := szQ_parts x
    rw [← inv_q hx]
    exact szQ_mk _ _ (Nat.pos_of_ne_zero (by rw [Ne, mg_zero]; exact hx)) h2 (by omega)
theorem szQ_div (x y : Rat) : szQ (x / y) ≤ szQ x + szQ y + 4 := by
  have h1 := szQ_mul x y⁻¹
  have h2 := @szQ_inv y
  rw [Rat.div_def]
  omega

/-- Raw parts tell q, in the document's digits. -/
structure VD (q : Rat) (v : RawR) (W : World) : Prop where
  e0 : v.1 = ngQ q
  e1 : v.2.1.2.1 = (D (mgQ q)).length
  e2 : v.2.2.2.1 = (D q.den).length
  lies : DgQ W v.2.1.1 v.2.1.2.2 v.2.2.1 v.2.2.2.2 q
def BlankD (W : World) (r : Nat) : Prop := W.heap[r]? = some (.cells #[.bool false, .slice none 0 0, .slice none 0 0] 34 (0, 0))
theorem BlankD.kept {W W' : World} {r : Nat} (h : BlankD W r) (hb : Below W.heap.size W W') : BlankD W' r := (hb.block r (Array.getElem?_eq_some_iff.1 h).1).trans h
theorem BlankD.cells {W : World} {r : Nat} (h : BlankD W r) : W.cell? ⟨r, 0, none⟩ = some (.bool false) ∧ W.cell? ⟨r, 1, none⟩ = some (.slice none 0 0) ∧ W.cell? ⟨r, 2, none⟩ = some (.slice none 0 0) ∧ W.frozen? ⟨r, 0, none⟩ = false ∧ W.frozen? ⟨r, 1, none⟩ = false ∧ W.frozen? ⟨r, 2, none⟩ = false := cells3 h
theorem BlankD.ne {W : World} {g : Nat} (h : BlankD W g) : g ≠ W.heap.size ∧ W.heap.size ≠ g ∧ g < W.heap.size := by
  have := (Array.getElem?_eq_some_iff.1 h).1
  omega
theorem BlankD.past {g k : Nat} {W : World} (h : BlankD W g) (hne : g ≠ k) (s : Bool) (v1 v2 : Value) : BlankD (set3 W k s v1 v2) g :=
  ((set3_grown W k s v1 v2).block _ (Array.getElem?_eq_some_iff.1 h).1 (by simpa using hne)).trans h
theorem VD.kept {q : Rat} {v : RawR} {W W' : World} (h : VD q v W) (hb : Below W.heap.size W W') : VD q v W' := ⟨h.e0, h.e1, h.e2, h.lies.kept hb⟩
theorem VD.set3 {q : Rat} {v : RawR} {W : World} {g : Nat} (h : VD q v W) (hb : BlankD W g) (s : Bool) (v1 v2 : Value) : VD q v (Go.Proofs.YtomoemgoglghlaaGreatDoor.set3 W g s v1 v2) := ⟨h.e0, h.e1, h.e2, h.lies.num.set3 hb _ _ _, h.lies.den.set3 hb _ _ _⟩
/-- Behind the first call. -/
structure D1 (W0 : World) (q : Rat) (x : RawR) (W : World) : Prop where
  vx : VD q x W
  below : Below W0.heap.size W0 W
/-- Behind both calls. -/
structure D2 (W0 : World) (q r : Rat) (x y : RawR) (W : World) : Prop where
  vx : VD q x W
  vy : VD r y W
  below : Below W0.heap.size W0 W
section
variable {W0 W : World} {q r : Rat} {x y : RawR}
theorem D1.kept {W' : World} (h : D1 W0 q x W) (hb : Below W.heap.size W W') : D1 W0 q x W' := ⟨h.vx.kept hb, h.below.trans (hb.mono h.below.size)⟩
theorem D2.kept {W' : World} (h : D2 W0 q r x y W) (hb : Below W.heap.size W W') : D2 W0 q r x y W' := ⟨h.vx.kept hb, h.vy.kept hb, h.below.trans (hb.mono h.below.size)⟩
theorem D2.alloc (h : D2 W0 q r x y W) (o : Obj) : D2 W0 q r x y (W.alloc o) := h.kept ((Below.refl _ _).alloc (Nat.le_refl _) _)
theorem D2.set3 {g : Nat} (h : D2 W0 q r x y W) (hb : BlankD W g) (hg : W0.heap.size ≤ g) (s : Bool) (v1 v2 : Value) : D2 W0 q r x y (Go.Proofs.YtomoemgoglghlaaGreatDoor.set3 W g s v1 v2) :=
  ⟨h.vx.set3 hb _ _ _, h.vy.set3 hb _ _ _, set3_below h.below hg⟩
/-- Where a ratio's parts lie. -/
def LiesD (v : RawR) (g : Nat) (W : World) : Prop := W.heap[g]? = some (.cells #[.bool v.1, .slice v.2.1.1 v.2.1.2.1 v.2.1.2.2, .slice v.2.2.1 v.2.2.2.1 v.2.2.2.2] 34 (0, 0))
theorem LiesD.kept {v : RawR} {g : Nat} {W W' : World} (h : LiesD v g W) (hb : Below W.heap.size W W') : LiesD v g W' := (hb.block _ (Array.getElem?_eq_some_iff.1 h).1).trans h
theorem LiesD.new (v : RawR) (W : World) : LiesD v W.heap.size (W.alloc (.cells #[.bool v.1, .slice v.2.1.1 v.2.1.2.1 v.2.1.2.2, .slice v.2.2.1 v.2.2.2.1 v.2.2.2.2] 34)) := heap_alloc_new W _
theorem LiesD.alloc {v : RawR} {g : Nat} {W : World} (h : LiesD v g W) (o : Obj) : LiesD v g (W.alloc o) := h.kept ((Below.refl _ _).alloc (Nat.le_refl _) _)
theorem LiesD.put {g : Nat} {W : World} (h : BlankD W g) (v : RawR) : LiesD v g (set3 W g v.1 (.slice v.2.1.1 v.2.1.2.1 v.2.1.2.2) (.slice v.2.2.1 v.2.2.2.1 v.2.2.2.2)) := by
  unfold BlankD at h
  simp [LiesD, Go.Proofs.YtomoemgoglghlaaGreatDoor.set3, World.setCell, Array.getElem?_modify, h]
theorem LiesD.past {v : RawR} {g k : Nat} {W : World} (h : LiesD v g W) (hne : g ≠ k) (s : Bool) (v1 v2 : Value) : LiesD v g (set3 W k s v1 v2) :=
  ((set3_grown W k s v1 v2).block _ (Array.getElem?_eq_some_iff.1 h).1 (by simpa using hne)).trans h
/-- Behind the region: where both answers lie. -/
structure PairAt (W0 : World) (q r : Rat) (i : Nat × Nat × RawR × RawR) (W : World) : Prop where
  x : LiesD i.2.2.1 i.1 W
  y : LiesD i.2.2.2 i.2.1 W
  t : D2 W0 q r i.2.2.1 i.2.2.2 W
theorem D2.end0a (h : D2 W0 q r x y W) : PairAt W0 q r (W.heap.size, W.heap.size + 1, x, y) ((W.alloc (.cells #[.bool x.1, .slice x.2.1.1 x.2.1.2.1 x.2.1.2.2, .slice x.2.2.1 x.2.2.2.1 x.2.2.2.2] 34)).alloc (.cells #[.bool y.1, .slice y.2.1.1 y.2.1.2.1 y.2.1.2.2, .slice y.2.2.1 y.2.2.2.1 y.2.2.2.2] 34)) :=
  ⟨(LiesD.new x W).alloc _, by simpa using LiesD.new y (W.alloc (.cells #[.bool x.1, .slice x.2.1.1 x.2.1.2.1 x.2.1.2.2, .slice x.2.2.1 x.2.2.2.1 x.2.2.2.2] 34)), (h.alloc _).alloc _⟩
theorem D2.end0b (h : D2 W0 q r x y W) : PairAt W0 q r (W.heap.size + 1, W.heap.size, x, y) ((W.alloc (.cells #[.bool y.1, .slice y.2.1.1 y.2.1.2.1 y.2.1.2.2, .slice y.2.2.1 y.2.2.2.1 y.2.2.2.2] 34)).alloc (.cells #[.bool x.1, .slice x.2.1.1 x.2.1.2.1 x.2.1.2.2, .slice x.2.2.1 x.2.2.2.1 x.2.2.2.2] 34)) :=
  ⟨by simpa using LiesD.new x (W.alloc (.cells #[.bool y.1, .slice y.2.1.1 y.2.1.2.1 y.2.1.2.2, .slice y.2.2.1 y.2.2.2.1 y.2.2.2.2] 34)), (LiesD.new y W).alloc _, (h.alloc _).alloc _⟩
theorem D2.end1a {g : Nat} (h : D2 W0 q r x y W) (hb : BlankD W g) (hg : W0.heap.size ≤ g) : PairAt W0 q r (g, W.heap.size, x, y) ((Go.Proofs.YtomoemgoglghlaaGreatDoor.set3 W g x.1 (.slice x.2.1.1 x.2.1.2.1 x.2.1.2.2) (.slice x.2.2.1 x.2.2.2.1 x.2.2.2.2)).alloc (.cells #[.bool y.1, .slice y.2.1.1 y.2.1.2.1 y.2.1.2.2, .slice y.2.2.1 y.2.2.2.1 y.2.2.2.2] 34)) :=
  ⟨(LiesD.put hb x).alloc _, by have := LiesD.new y (Go.Proofs.YtomoemgoglghlaaGreatDoor.set3 W g x.1 (.slice x.2.1.1 x.2.1.2.1 x.2.1.2.2) (.slice x.2.2.1 x.2.2.2.1 x.2.2.2.2)); rwa [set3_size] at this, (h.set3 hb hg _ _ _).alloc _⟩
theorem D2.end1b {g : Nat} (h : D2 W0 q r x y W) (hb : BlankD W g) (hg : W0.heap.size ≤ g) : PairAt W0 q r (W.heap.size, g, x, y) ((Go.Proofs.YtomoemgoglghlaaGreatDoor.set3 W g y.1 (.slice y.2.1.1 y.2.1.2.1 y.2.1.2.2) (.slice y.2.2.1 y.2.2.2.1 y.2.2.2.2)).alloc (.cells #[.bool x.1, .slice x.2.1.1 x.2.1.2.1 x.2.1.2.2, .slice x.2.2.1 x.2.2.2.1 x.2.2.2.2] 34)) :=
  ⟨by have := LiesD.new x (Go.Proofs.YtomoemgoglghlaaGreatDoor.set3 W g y.1 (.slice y.2.1.1 y.2.1.2.1 y.2.1.2.2) (.slice y.2.2.1 y.2.2.2.1 y.2.2.2.2)); rwa [set3_size] at this, (LiesD.put hb y).alloc _, (h.set3 hb hg _ _ _).alloc _⟩
theorem D2.end2 {g k : Nat} (h : D2 W0 q r x y W) (hb : BlankD W g) (hk : BlankD W k) (hne : g ≠ k) (hg : W0.heap.size ≤ g) (hg2 : W0.heap.size ≤ k) :
    PairAt W0 q r (g, k, x, y) (Go.Proofs.YtomoemgoglghlaaGreatDoor.set3 (Go.Proofs.YtomoemgoglghlaaGreatDoor.set3 W g x.1 (.slice x.2.1.1 x.2.1.2.1 x.2.1.2.2) (.slice x.2.2.1 x.2.2.2.1 x.2.2.2.2)) k y.1 (.slice y.2.1.1 y.2.1.2.1 y.2.1.2.2) (.slice y.2.2.1 y.2.2.2.1 y.2.2.2.2)) :=
  ⟨(LiesD.put hb x).past hne _ _ _, LiesD.put (hk.past (Ne.symm hne) _ _ _) y, (h.set3 hb hg _ _ _).set3 (hk.past (Ne.symm hne) _ _ _) hg2 _ _ _⟩
end
theorem blankD_second {W : World} (wa : World) (h : Below ((wa.alloc (.cells #[.bool false, .slice none 0 0, .slice none 0 0] 34)).alloc (.cells #[.bool false, .slice none 0 0, .slice none 0 0] 34)).heap.size ((wa.alloc (.cells #[.bool false, .slice none 0 0, .slice none 0 0] 34)).alloc (.cells #[.bool false, .slice none 0 0, .slice none 0 0] 34)) W) : BlankD W (wa.heap.size + 1) := by
  refine BlankD.kept ?_ h
  have := heap_alloc_new (wa.alloc (.cells #[.bool false, .slice none 0 0, .slice none 0 0] 34)) (.cells #[.bool false, .slice none 0 0, .slice none 0 0] 34)
  simpa [BlankD] using this
theorem far2 {w W0 W : World} (h : w.heap.size + 1 < W0.heap.size) (hb : Below W0.heap.size W0 W) : w.heap.size ≠ W.heap.size ∧ W.heap.size ≠ w.heap.size ∧ w.heap.size ≠ W.heap.size + 1 ∧ W.heap.size + 1 ≠ w.heap.size ∧ w.heap.size + 1 ≠ W.heap.size ∧ W.heap.size ≠ w.heap.size + 1 ∧ w.heap.size + 1 ≠ W.heap.size + 1 ∧ W.heap.size + 1 ≠ w.heap.size + 1 := by
  have := hb.size
  omega
/-- A call gives q's digits, behind W5. -/
def GotD (W5 : World) (q : Rat) (e : Ending) (W' : World) : Prop :=
  ∃ s z1 m1 k1 z2 m2 k2, e = .returned (.agg #[.bool s, .slice z1 m1 k1, .slice z2 m2 k2]) ∧ Hid (Below W5.heap.size W5 W') ∧ Hid (VD q (s, (z1, m1, k1), (z2, m2, k2)) W')
theorem GivesDQ.got {W5 W W' : World} {q : Rat} {e : Ending} (h : GivesDQ q W e W') (hb : Below W5.heap.size W5 W) : GotD W5 q e W' := by
  obtain ⟨a1, c1, a2, c2, rfl, hd, hb2⟩ := h
  exact ⟨_, a1, _, c1, a2, _, c2, rfl, Lib.hid (hb.trans (hb2.mono hb.size)), Lib.hid ⟨rfl, rfl, rfl, hd⟩⟩
/-- A call gives q's limbs, behind W5. -/
def GotQ (W5 : World) (q : Rat) (e : Ending) (W' : World) : Prop :=
  ∃ s z1 m1 k1 z2 m2 k2, e = .returned (.agg #[.bool s, .slice z1 m1 k1, .slice z2 m2 k2]) ∧ Hid (Below W5.heap.size W5 W') ∧ Hid (VQ q (s, (z1, m1, k1), (z2, m2, k2)) W')
theorem NewQ.got {W5 W W' : World} {q : Rat} {e : Ending} (h : NewQ q W e W') (hb : Below W5.heap.size W5 W) : GotQ W5 q e W' := by
  obtain ⟨a1, c1, a2, c2, rfl, hd, hb2⟩ := h
  exact ⟨_, a1, _, c1, a2, _, c2, rfl, Lib.hid (hb.trans (hb2.mono hb.size)), Lib.hid ⟨rfl, rfl, rfl, hd⟩⟩
/-- A call tells v, behind W5. -/
def GotV (W5 : World) (v : Value) (e : Ending) (W' : World) : Prop := e = .returned v ∧ Hid (Below W5.heap.size W5 W')
theorem VD.eq {q : Rat} {s : Bool} {z1 z2 : Option Addr} {m1 k1 m2 k2 : Nat} {W : World} (h : VD q (s, (z1, m1, k1), (z2, m2, k2)) W) : (.agg #[.bool s, .slice z1 m1 k1, .slice z2 m2 k2] : Value) = dV q z1 k1 z2 k2 ∧ DgQ W z1 k1 z2 k2 q := by
  obtain ⟨h0, h1, h2, h3⟩ := h
  dsimp only at h0 h1 h2 h3
  subst h0 h1 h2
  exact ⟨rfl, h3⟩
theorem VQ.eq {q : Rat} {s : Bool} {z1 z2 : Option Addr} {m1 k1 m2 k2 : Nat} {W : World} (h : VQ q (s, (z1, m1, k1), (z2, m2, k2)) W) : (.agg #[.bool s, .slice z1 m1 k1, .slice z2 m2 k2] : Value) = qV q z1 k1 z2 k2 ∧ AtQ W z1 k1 z2 k2 q := by
  obtain ⟨h0, h1, h2, h3⟩ := h
  dsimp only at h0 h1 h2 h3
  subst h0 h1 h2
  exact ⟨rfl, h3⟩
section
variable {W5 W : World} {q r : Rat} {s t : Bool} {z1 z2 y1 y2 : Option Addr} {m1 k1 m2 k2 n1 j1 n2 j2 : Nat}
theorem got_add (h : VD q (s, (z1, m1, k1), (z2, m2, k2)) W) (g : VD r (t, (y1, n1, j1), (y2, n2, j2)) W) (hq : szQ q ≤ 100) (hr : szQ r ≤ 100) (hb : Below W5.heap.size W5 W) :
    Calls Tryz.prog 17 #[.agg #[.bool s, .slice z1 m1 k1, .slice z2 m2 k2], .agg #[.bool t, .slice y1 n1 j1, .slice y2 n2 j2]] W (GotD W5 (q + r)) := by
  obtain ⟨e1, d1⟩ := h.eq
  obtain ⟨e2, d2⟩ := g.eq
  obtain ⟨l1, l2⟩ := dl_q hq
  obtain ⟨l3, l4⟩ := dl_q hr
  rw [e1, e2]
  exact (AddR_q d1 d2 (by omega) (by omega) (by omega) (by omega)).mono fun e W' h => h.got hb
theorem got_mul (h : VD q (s, (z1, m1, k1), (z2, m2, k2)) W) (g : VD r (t, (y1, n1, j1), (y2, n2, j2)) W) (hq : szQ q ≤ 100) (hr : szQ r ≤ 100) (hb : Below W5.heap.size W5 W) :
    Calls Tryz.prog 23 #[.agg #[.bool s, .slice z1 m1 k1, .slice z2 m2 k2], .agg #[.bool t, .slice y1 n1 j1, .slice y2 n2 j2]] W (GotD W5 (q * r)) := by
  obtain ⟨e1, d1⟩ := h.eq
  obtain ⟨e2, d2⟩ := g.eq
  obtain ⟨l1, l2⟩ := dl_q hq
  obtain ⟨l3, l4⟩ := dl_q hr
  rw [e1, e2]
  exact (MulR_q d1 d2 (by omega) (by omega) (by omega) (by omega)).mono fun e W' h => h.got hb
theorem got_div (h : VD q (s, (z1, m1, k1), (z2, m2, k2)) W) (g : VD r (t, (y1, n1, j1), (y2, n2, j2)) W) (hq : szQ q ≤ 100) (hr : szQ r ≤ 100) (hb : Below W5.heap.size W5 W) :
    Calls Tryz.prog 26 #[.agg #[.bool s, .slice z1 m1 k1, .slice z2 m2 k2], .agg #[.bool t, .slice y1 n1 j1, .slice y2 n2 j2]] W (GotD W5 (q / r)) := by
  obtain ⟨e1, d1⟩ := h.eq
  obtain ⟨e2, d2⟩ := g.eq
  obtain ⟨l1, l2⟩ := dl_q hq
  obtain ⟨l3, l4⟩ := dl_q hr
  rw [e1, e2]
  exact (DivR_q d1 d2 (by omega) (by omega) (by omega) (by omega)).mono fun e W' h => h.got hb
theorem got_cmp (h : VD q (s, (z1, m1, k1), (z2, m2, k2)) W) (g : VD r (t, (y1, n1, j1), (y2, n2, j2)) W) (hq : szQ q ≤ 100) (hr : szQ r ≤ 100) (hb : Below W5.heap.size W5 W) {c : Int} (hc : cmpQ q r = c) :
    Calls Tryz.prog 28 #[.agg #[.bool s, .slice z1 m1 k1, .slice z2 m2 k2], .agg #[.bool t, .slice y1 n1 j1, .slice y2 n2 j2]] W (GotV W5 (.int .i64 c)) := by
  obtain ⟨e1, d1⟩ := h.eq
  obtain ⟨e2, d2⟩ := g.eq
  obtain ⟨l1, l2⟩ := dl_q hq
  obtain ⟨l3, l4⟩ := dl_q hr
  subst hc
  rw [e1, e2]
  exact (CmpR_q d1 d2 (by omega) (by omega) (by omega) (by omega)).mono fun e W' h => ⟨h.1, Lib.hid (hb.trans (h.2.mono hb.size))⟩
theorem got_neg (h : VD q (s, (z1, m1, k1), (z2, m2, k2)) W) (hb : Below W5.heap.size W5 W) :
    Calls Tryz.prog 20 #[.agg #[.bool s, .slice z1 m1 k1, .slice z2 m2 k2]] W (GotD W5 (-q)) := by
  obtain ⟨e1, d1⟩ := h.eq
  rw [e1]
  exact (NegR_q d1).mono fun e W' h => h.got hb
theorem got_form (h : VD q (s, (z1, m1, k1), (z2, m2, k2)) W) (hq : szQ q ≤ 100) (hb : Below W5.heap.size W5 W) :
    Calls Tryz.prog 33 #[.agg #[.bool s, .slice z1 m1 k1, .slice z2 m2 k2]] W (GotQ W5 q) := by
  obtain ⟨e1, d1⟩ := h.eq
  obtain ⟨l1, l2⟩ := dl_q hq
  rw [e1]
  exact (d1.form (by omega) (by omega)).mono fun e W' h => h.got hb
theorem got_text (h : VD q (s, (z1, m1, k1), (z2, m2, k2)) W) (hq : szQ q ≤ 100) (hb : Below W5.heap.size W5 W) {v : ByteArray} (hv : textQ q = v) :
    Calls Tryz.prog 35 #[.agg #[.bool s, .slice z1 m1 k1, .slice z2 m2 k2]] W (GotV W5 (.string v)) := by
  obtain ⟨e1, d1⟩ := h.eq
  obtain ⟨l1, l2⟩ := dl_q hq
  subst hv
  rw [e1]
  exact (TextD_q d1 (by omega) (by omega)).mono fun e W' h => ⟨h.1, Lib.hid (hb.trans (h.2.mono hb.size))⟩
theorem got_term (h : VD q (s, (z1, m1, k1), (z2, m2, k2)) W) (hq : szQ q ≤ 100) (hb : Below W5.heap.size W5 W) {v : ByteArray} (hv : termQ q = v) :
    Calls Tryz.prog 37 #[.agg #[.bool s, .slice z1 m1 k1, .slice z2 m2 k2]] W (GotV W5 (.string v)) := by
  obtain ⟨e1, d1⟩ := h.eq
  obtain ⟨l1, l2⟩ := dl_q hq
  subst hv
  rw [e1]
  exact (TermD_q d1 (by omega) (by omega)).mono fun e W' h => ⟨h.1, Lib.hid (hb.trans (h.2.mono hb.size))⟩
theorem got_same (h : VQ q (s, (z1, m1, k1), (z2, m2, k2)) W) (g : VQ q (t, (y1, n1, j1), (y2, n2, j2)) W) (hq : szQ q ≤ 100) (hb : Below W5.heap.size W5 W) :
    Calls Tryz.prog 31 #[.agg #[.bool s, .slice z1 m1 k1, .slice z2 m2 k2], .agg #[.bool t, .slice y1 n1 j1, .slice y2 n2 j2]] W (GotV W5 (.bool true)) := by
  obtain ⟨e1, d1⟩ := h.eq
  obtain ⟨e2, d2⟩ := g.eq
  rw [e1, e2]
  unfold szQ at hq
  refine (SameR_any (ngQ q) (ngQ q) z1 z2 y1 y2 k1 k2 j1 j2 (L (mgQ q)) (L (denN q.den)) (L (mgQ q)) (L (denN q.den)) W d1.num.1 d1.den.1 d2.num.1 d2.den.1 (by omega) (by omega)).mono ?_
  rintro e W' ⟨rfl, hb2⟩
  exact ⟨by simp, Lib.hid (hb.trans (hb2.mono hb.size))⟩
theorem got_of (h : VQ q (s, (z1, m1, k1), (z2, m2, k2)) W) (hq : szQ q ≤ 100) (hb : Below W5.heap.size W5 W) :
    Calls Tryz.prog 13 #[.agg #[.bool s, .slice z1 m1 k1, .slice z2 m2 k2]] W (GotD W5 q) := by
  obtain ⟨e1, d1⟩ := h.eq
  rw [e1]
  exact (d1.ofD (by omega)).mono fun e W' h => h.got hb
end
end Go.Proofs.YtomoemgoglghlaaGreatDoor

/-
  The document's Decimal.
-/
set_option linter.unusedVariables false
set_option linter.unusedSimpArgs false
namespace Go.Proofs.YtomoemgoglghlaaGreatDoor
open Go.RowKit Rep

/-- What a byte less 48 is. -/
def dg48 (d : Nat) : Value := .int .i64 ((d : Int) - 48)
/-- The digits of bytes, the least one first. -/
def dsB (l : List UInt8) : List Nat := l.reverse.map (fun c => c.toNat - 48)
theorem dsB_dig {l : List UInt8} (h : l.all digB = true) : Dig 10 (dsB l) := by
  intro d hd
  obtain ⟨c, hc, rfl⟩ := List.mem_map.1 hd
  have := List.all_eq_true.1 h c (List.mem_reverse.1 hc)
  unfold digB at this
  simp only [Bool.and_eq_true, decide_eq_true_eq] at this
  omega
theorem dsB_val (l : List UInt8) : val 10 (dsB l) = numTxt l := by
  have key : ∀ m : List UInt8, val 10 (m.map (fun c => c.toNat - 48)) = numTxt m.reverse := by
    intro m
    induction m with
    | nil => rfl
    | cons c m ih => rw [List.map_cons, val_cons, List.reverse_cons, numTxt_snoc, ih]; omega
  have := key l.reverse
  rwa [List.reverse_reverse] at this
theorem dsB_cells {l : List UInt8} (h : l.all digB = true) : (l.reverse.map (·.toNat)).map dg48 = (dsB l).map i64v := by
  unfold dsB
  rw [List.map_map, List.map_map]
  refine List.map_congr_left fun c hc => ?_
  have := List.all_eq_true.1 h c (List.mem_reverse.1 hc)
  unfold digB at this
  simp only [Bool.and_eq_true, decide_eq_true_eq] at this
  simp only [Function.comp, dg48, i64v]
  congr 1
  omega

/-- The bytes from k on that are digits, where the point stands at pt (-1: nowhere). -/
def dzs (l : List UInt8) (k : Nat) (pt : Int) : List UInt8 := if pt = -1 then l.drop k else (l.take pt.toNat).drop k ++ l.drop (pt.toNat + 1)
structure DecOk (l : List UInt8) (k : Nat) (pt : Int) : Prop where
  at' : pt = -1 ∨ ∃ p : Nat, pt = p ∧ k ≤ p ∧ 0 < p ∧ p + 1 < l.length ∧ l[p]? = some 46
  all : (dzs l k pt).all digB = true
theorem all_mem {l : List UInt8} {c : UInt8} {k : Nat} (h : l.all digB = true) (hc : l[k]? = some c) : digB c = true := List.all_eq_true.1 h c (List.mem_of_getElem? hc)
theorem dot_no : digB 46 = false := rfl
/-- What stands in a decimal number. -/
theorem dec_yes {l : List UInt8} (h : decB l = true) {k : Nat} {c : UInt8} (hc : l[k]? = some c) : digB c = true ∨ (c = 46 ∧ ptI l = k ∧ 0 < k ∧ k + 1 < l.length) := by
  unfold decB at h
  simp only [Bool.and_eq_true, Bool.not_eq_true', Bool.or_eq_false_iff, Bool.and_eq_false_iff, decide_eq_false_iff_not] at h
  obtain ⟨⟨hA, hZ⟩, hd⟩ := h
  unfold isDigs at hd
  simp only [Bool.and_eq_true] at hd
  have hall := hd.2
  rw [List.all_append, Bool.and_eq_true] at hall
  obtain ⟨ha, hz⟩ := hall
  rcases ptI_cases l with ⟨e, _⟩ | ⟨i, e, hl, hi, _⟩
  · unfold cutA at ha
    rw [if_pos e] at ha
    exact .inl (all_mem ha hc)
  · have hne : ptI l ≠ -1 := by omega
    have hn : (ptI l).toNat = i := by omega
    have hZ' : cutZ l ≠ [] := by
      rcases hZ with h | h
      · exact absurd hne h
      · exact h
    unfold cutA at ha hA
    unfold cutZ at hz hZ'
    rw [if_neg hne, hn] at ha hz hA hZ'
    rcases Nat.lt_trichotomy k i with h | h | h
    · refine .inl (all_mem (k := k) ha ?_)
      rw [List.getElem?_take, if_pos h]; exact hc
    · subst h
      rw [hi] at hc
      refine .inr ⟨(Option.some.inj hc).symm, e, ?_, ?_⟩
      · rcases Nat.eq_zero_or_pos k with h0 | h0
        · subst h0; exact absurd (by simp) hA
        · exact h0
      · have := List.length_pos_iff.2 hZ'
        rw [List.length_drop] at this
        omega
    · refine .inl (all_mem (k := k - (i + 1)) hz ?_)
      rw [List.getElem?_drop, show i + 1 + (k - (i + 1)) = k from by omega]; exact hc
theorem dec_two {l : List UInt8} {k p : Nat} (h1 : l[k]? = some 46) (h2 : l[p]? = some 46) (hne : k ≠ p) : decB l = false := by
  rw [Bool.eq_false_iff]
  intro h
  rcases dec_yes h h1 with e | ⟨_, e1, _⟩
  · rw [dot_no] at e; cases e
  · rcases dec_yes h h2 with e | ⟨_, e2, _⟩
    · rw [dot_no] at e; cases e
    · omega
theorem dec_edge {l : List UInt8} {k : Nat} (h1 : l[k]? = some 46) (hk : k = 0 ∨ l.length ≤ k + 1) : decB l = false := by
  rw [Bool.eq_false_iff]
  intro h
  rcases dec_yes h h1 with e | ⟨_, _, e⟩
  · rw [dot_no] at e; cases e
  · omega
theorem dec_bad {l : List UInt8} {k : Nat} {c : UInt8} (h1 : l[k]? = some c) (hc : c ≠ 46) (hd : digB c = false) : decB l = false := by
  rw [Bool.eq_false_iff]
  intro h
  rcases dec_yes h h1 with e | ⟨e, _⟩
  · rw [hd] at e; cases e
  · exact hc e
theorem dzs_point {l : List UInt8} {k : Nat} : dzs l k (k : Int) = dzs l (k + 1) (-1) := by
  unfold dzs
  rw [if_neg (by omega), if_pos rfl]
  simp
theorem dzs_next {l : List UInt8} {k : Nat} {c : UInt8} {pt : Int} (hc : l[k]? = some c) (h : DecOk l (k + 1) pt) : dzs l k pt = c :: dzs l (k + 1) pt := by
  obtain ⟨hk, hce⟩ := List.getElem?_eq_some_iff.1 hc
  unfold dzs
  rcases h.at' with rfl | ⟨p, rfl, h1, _, h2, _⟩
  · rw [if_pos rfl, if_pos rfl, List.drop_eq_getElem_cons hk, hce]
  · rw [if_neg (by omega), if_neg (by omega), Int.toNat_natCast, List.drop_eq_getElem_cons (l := l.take p) (i := k) (by rw [List.length_take]; omega)]
    simp [hce]
theorem DecOk.start (l : List UInt8) : DecOk l l.length (-1) := ⟨.inl rfl, by unfold dzs; rw [if_pos rfl, List.drop_length]; rfl⟩
theorem DecOk.point {l : List UInt8} {k : Nat} (h : DecOk l (k + 1) (-1)) (hc : l[k]? = some 46) (h0 : 0 < k) (h1 : k + 1 < l.length) : DecOk l k (k : Int) :=
  ⟨.inr ⟨k, rfl, Nat.le_refl _, h0, h1, hc⟩, by rw [dzs_point]; exact h.all⟩
theorem DecOk.digit {l : List UInt8} {k : Nat} {c : UInt8} {pt : Int} (h : DecOk l (k + 1) pt) (hc : l[k]? = some c) (hd : digB c = true) : DecOk l k pt := by
  refine ⟨?_, by rw [dzs_next hc h, List.all_cons, hd, h.all]; rfl⟩
  rcases h.at' with rfl | ⟨p, rfl, h1, h2⟩
  · exact .inl rfl
  · exact .inr ⟨p, rfl, by omega, h2⟩
/-- How many digits stand behind the point. -/
def behind (l : List UInt8) (pt : Int) : Nat := if pt = -1 then 0 else l.length - (pt.toNat + 1)
theorem dec_done {l : List UInt8} {pt : Int} (h : DecOk l 0 pt) (hl : l ≠ []) (hlen : l.length ≤ 10000) : decB l = true ∧ decQ l = mkQ false (numTxt (dzs l 0 pt)) (10 ^ behind l pt) := by
  have hall := h.all
  rcases h.at' with rfl | ⟨p, rfl, _, h0, h1, hp⟩
  · unfold dzs at hall ⊢
    rw [if_pos rfl, List.drop_zero] at hall ⊢
    have hpt : ptI l = -1 := by
      rcases ptI_cases l with ⟨e, _⟩ | ⟨i, e, _, hi, _⟩
      · exact e
      · have := all_mem hall hi; rw [dot_no] at this; cases this
    have hA : cutA l = l := by unfold cutA; rw [if_pos hpt]
    have hZ : cutZ l = [] := by unfold cutZ; rw [if_pos hpt]
    refine ⟨?_, ?_⟩
    · unfold decB isDigs
      rw [hA, hZ, List.append_nil, hall, hpt]
      simp [hl, hlen]
    · unfold decQ behind
      rw [hA, hZ, List.append_nil, if_pos rfl]
      rfl
  · unfold dzs at hall ⊢
    rw [if_neg (by omega), Int.toNat_natCast, List.drop_zero] at hall ⊢
    have hall' := hall
    rw [List.all_append, Bool.and_eq_true] at hall
    obtain ⟨ha, hz⟩ := hall
    have hpt : ptI l = p := by
      rcases ptI_cases l with ⟨_, e⟩ | ⟨i, e, _, hi, hn⟩
      · exact absurd (List.mem_of_getElem? hp) e
      · rcases Nat.lt_trichotomy i p with h | h | h
        · have := all_mem (k := i) ha (by rw [List.getElem?_take, if_pos h]; exact hi)
          rw [dot_no] at this; cases this
        · rw [e, h]
        · refine absurd ?_ hn
          refine List.mem_of_getElem? (i := p) ?_
          rw [List.getElem?_take, if_pos h]; exact hp
    have hne : ptI l ≠ -1 := by omega
    have hn : (ptI l).toNat = p := by omega
    have hA : cutA l = l.take p := by unfold cutA; rw [if_neg hne, hn]
    have hZ : cutZ l = l.drop (p + 1) := by unfold cutZ; rw [if_neg hne, hn]
    have hA0 : cutA l ≠ [] := by rw [hA]; intro e; have := congrArg List.length e; rw [List.length_take, List.length_nil] at this; omega
    have hZ0 : cutZ l ≠ [] := by rw [hZ]; intro e; have := congrArg List.length e; rw [List.length_drop, List.length_nil] at this; omega
    refine ⟨?_, ?_⟩
    · unfold decB isDigs
      rw [decide_eq_false hA0, decide_eq_false hZ0, hA, hZ, hall']
      have e1 : (l.take p ++ l.drop (p + 1)).length ≠ 0 := by rw [List.length_append, List.length_drop]; omega
      have e2 : (l.take p ++ l.drop (p + 1)).length ≤ 10000 := by rw [List.length_append, List.length_drop, List.length_take]; omega
      rw [decide_eq_true e1, decide_eq_true e2]
      simp
    · unfold decQ behind
      rw [hA, hZ, if_neg (by omega), Int.toNat_natCast, List.length_drop]
theorem dzs_len {l : List UInt8} {k : Nat} {pt : Int} : (dzs l k pt).length ≤ l.length + l.length := by
  unfold dzs
  split
  · rw [List.length_drop]; omega
  · rw [List.length_append, List.length_drop, List.length_drop, List.length_take]; omega

/-- The digits from k on are there. -/
def DecIn (w : World) (l : List UInt8) (k : Nat) (pt : Int) (dv : Value) (wr : World) : Prop :=
  ∃ (a : Option Addr) (c : Nat), dv = .slice a (dzs l k pt).length c ∧ OwnR 3 dg48 w.heap.size wr a c ((dzs l k pt).reverse.map (·.toNat)) ∧ Below w.heap.size w wr ∧ DecOk l k pt
theorem DecIn.next {w wr w' : World} {l : List UInt8} {k m : Nat} {ch : UInt8} {pt : Int} {O : List Nat} {a1 : Option Addr} {g' cap' : Nat} {ob : Obj} (hV : (dzs l k pt).reverse.map (·.toNat) = O ++ [ch.toNat])
    (hok : DecOk l k pt) (hmk : (dzs l k pt).length = m + 1) (hB : Below w.heap.size w wr) (hblk : ∀ g, blk a1 = some g → w.heap.size ≤ g)
    (hrow : Row 3 w' g' cap' ((O ++ [ch.toNat]).map dg48)) (hcap : cap' ≤ maxLen) (hgrow : (wr.alloc ob).grownBy w' (blk a1)) (hg' : w.heap.size ≤ g') :
    DecIn w l k pt (.slice (some ⟨g', 0, none⟩) (m + 1) cap') w' := by
  have hsz := hB.size
  exact ⟨some ⟨g', 0, none⟩, cap', by rw [hmk], ⟨hcap, .inr ⟨g', rfl, hg', by rw [hV]; exact hrow⟩⟩, (hB.alloc hB.size _).grown hgrow (by simp <;> omega) (fun k hk => hblk k hk), hok⟩

/-- What the document's Decimal gives. -/
def GivesDecD (l : List UInt8) (w : World) (e : Ending) (w' : World) : Prop :=
  ∃ q s z1 m1 k1 z2 m2 k2, e = .returned (.tuple #[.agg #[.bool s, .slice z1 m1 k1, .slice z2 m2 k2], .bool (decB l)]) ∧ Hid (VD q (s, (z1, m1, k1), (z2, m2, k2)) w') ∧ Hid (Below w.heap.size w w') ∧ Hid ((decB l = true ∧ q = decQ l) ∨ (decB l = false ∧ q = 0))
theorem dec_end {w w1 W : World} {l : List UInt8} {q : Rat} {b : Bool} {s : Bool} {z1 z2 : Option Addr} {m1 k1 m2 k2 : Nat} (hr : BlankD w1 w.heap.size) (hb0 : Below w.heap.size w w1) (hb : Below w1.heap.size w1 W) (hv : VD q (s, (z1, m1, k1), (z2, m2, k2)) W) (hd : decB l = b) (hq : (decB l = true ∧ q = decQ l) ∨ (decB l = false ∧ q = 0)) :
    GivesDecD l w (.returned (.tuple #[.agg #[.bool s, .slice z1 m1 k1, .slice z2 m2 k2], .bool b])) (set3 W w.heap.size s (.slice z1 m1 k1) (.slice z2 m2 k2)) :=
  ⟨q, s, z1, m1, k1, z2, m2, k2, by rw [hd], Lib.hid (hv.set3 (hr.kept hb) _ _ _), Lib.hid (set3_below (hb0.trans (hb.mono hb0.size)) (Nat.le_refl _)), Lib.hid hq⟩
theorem D_ten (j : Nat) : D (10 ^ (j + 1)) = 0 :: D (10 ^ j) := by
  have h : 0 < 10 ^ j := Nat.pow_pos (by omega)
  have e : 10 ^ (j + 1) = 10 * 10 ^ j := by rw [Nat.pow_succ]; omega
  rw [D_cons (by omega), e, Nat.mul_mod_right, Nat.mul_div_cancel_left _ (by omega)]
theorem D_ten_len (j : Nat) : (D (10 ^ j)).length = j + 1 := by
  induction j with
  | zero => rfl
  | succ j ih => rw [D_ten, List.length_cons, ih]
/-- A power of ten is there. -/
def TenIn (w : World) (j : Nat) (dv : Value) (wr : World) : Prop :=
  ∃ (a : Option Addr) (c : Nat), dv = .slice a (j + 1) c ∧ DAt wr a c (10 ^ j) ∧ Below w.heap.size w wr
theorem ten_next {w' : World} {j : Nat} {g' cap' : Nat} {D0 : List Nat} (h0 : D0 = D (10 ^ j)) (hrow : Row 3 w' g' cap' ([.int .i64 0] ++ D0.map i64v)) (hcap : cap' ≤ maxLen) : DAt w' (some ⟨g', 0, none⟩) cap' (10 ^ (j + 1)) := by
  have e : (D (10 ^ (j + 1))).map i64v = [.int .i64 0] ++ D0.map i64v := by rw [D_ten, h0]; rfl
  have hle := hrow.le
  rw [← e] at hrow hle
  exact ⟨hrow.reads0, by simpa using hle, hcap⟩

set_option maxRecDepth 100000 in
set_option maxHeartbeats 8000000 in
theorem DecimalD_q (s : ByteArray) (w : World) (hs : s.size ≤ 1000) :
    Calls Tryz.prog 47 #[.string s] w (GivesDecD s.data.toList w) := by
  obtain ⟨W0, hW0⟩ : ∃ W0, W0 = w.alloc (.cells #[.bool false, .slice none 0 0, .slice none 0 0] 34) := ⟨_, rfl⟩
  have hB0 : Below w.heap.size w W0 := by rw [hW0]; exact (Below.refl _ _).alloc (Nat.le_refl _) _
  have b3 : BlankD W0 w.heap.size := by rw [hW0]; exact heap_alloc_new w _
  have hlt : w.heap.size < W0.heap.size := by rw [hW0]; simp
  obtain ⟨l, hl⟩ : ∃ l, l = s.data.toList := ⟨_, rfl⟩
  rw [← hl]
  have HLL : Hid (l.length = s.size) := Lib.hid (by rw [hl]; exact size_list s)
  have HLB : Hid (∀ (k : Nat) (h : k < s.size), l[k]? = some s[k]) := Lib.hid (fun k h => by rw [hl]; exact byte_at h)
  have HS : Hid (DecIn W0 l s.size (-1) (.slice (some ⟨w.heap.size + 1, 0, none⟩) 0 0) (W0.alloc (.cells #[] 3))) := Lib.hid (by
    rw [← HLL.out]
    have hsw : w.heap.size + 1 = W0.heap.size := by rw [hW0]; simp
    rw [hsw]
    have e : dzs l l.length (-1) = [] := by unfold dzs; rw [if_pos rfl, List.drop_length]
    refine ⟨some ⟨W0.heap.size, 0, none⟩, 0, by rw [e]; rfl, ⟨by simp [maxLen], .inr ⟨W0.heap.size, rfl, Nat.le_refl _, ?_⟩⟩, (Below.refl _ _).alloc (Nat.le_refl _) _, DecOk.start l⟩
    rw [e]
    exact Row.new (E := 3) W0 #[])
  have HW0 := Lib.hid hW0
  have HB0 := Lib.hid hB0
  have HB3 := Lib.hid b3
  clear hl hW0 hB0 b3
  go_enter Tryz.func47, Tryz.ntmps47
  go_wp2_with fail
  rw [← HW0.out]
  have hlt1 := hlt
  go_loopw [4, 5, 6] (fun pv dv iv wr => ∃ (k : Nat) (pt : Int), k ≤ s.size ∧ iv = .int .i64 ((k : Int) - 1) ∧ pv = .int .i64 pt ∧ DecIn W0 l k pt dv wr) (fun _ _ iv _ => (intOf iv + 1).toNat)
  case atStart => exact ⟨s.size, -1, Nat.le_refl _, rfl, rfl, HS.out⟩
  case round =>
    obtain ⟨k, pt, hk, rfl, rfl, a1, c1, rfl, ho, hB, hok⟩ := hrel
    clear HS
    cases k with
    | zero =>
      rw [show (((0 : Nat) : Int) - 1) = -1 from rfl]
      obtain ⟨Z, hZ⟩ : ∃ Z, dzs l 0 pt = Z := ⟨_, rfl⟩
      obtain ⟨z, hz⟩ : ∃ z, behind l pt = z := ⟨_, rfl⟩
      have hll : l.length = s.size := HLL.out
      have hzl : Z.length ≤ 2000 := by rw [← hZ]; have := @dzs_len l 0 pt; omega
      have HALL : Hid (Z.all digB = true) := Lib.hid (by rw [← hZ]; exact hok.all)
      have hp1 : -1 ≤ pt := by rcases hok.at' with rfl | ⟨p, rfl, _⟩ <;> omega
      have hp2 : pt ≤ 1000 := by rcases hok.at' with rfl | ⟨p, rfl, _⟩ <;> omega
      have HP : Hid ((pt = -1 ∧ z = 0) ∨ (0 ≤ pt ∧ pt + 1 + (z : Int) = s.size)) := Lib.hid (by
        rcases hok.at' with rfl | ⟨p, rfl, _, _, h1, _⟩
        · exact .inl ⟨rfl, by rw [← hz]; unfold behind; rw [if_pos rfl]⟩
        · refine .inr ⟨by omega, ?_⟩
          rw [← hz]; unfold behind; rw [if_neg (by omega), Int.toNat_natCast]; omega)
      have hz1 : z ≤ 1000 := by rcases HP.out with ⟨_, h⟩ | ⟨h, h2⟩ <;> omega
      have HQ : Hid ((0 < s.size → decB l = true ∧ decQ l = mkQ false (numTxt Z) (10 ^ z)) ∧ (s.size = 0 → decB l = false ∧ mkQ false (numTxt Z) (10 ^ z) = 0)) := Lib.hid (by
        refine ⟨fun h => ?_, fun h => ?_⟩
        · rw [← hZ, ← hz]
          exact dec_done hok (fun e => by rw [e] at hll; simp at hll; omega) (by omega)
        · have e : l = [] := List.length_eq_zero_iff.1 (by omega)
          have e2 : pt = -1 := by rcases hok.at' with e3 | ⟨p, _, _, _, h1, _⟩
                                  · exact e3
                                  · omega
          refine ⟨by rw [e]; decide, ?_⟩
          rw [← hZ, e, e2]
          show mkQ false 0 _ = 0
          exact mkQ_zero _ _)
      rw [hZ] at ho ⊢
      have HO := Lib.hid ho
      have HBX := Lib.hid hB
      have hbl := hB.size
      clear ho hok hZ hz hll hB
      obtain ⟨wo, rfl⟩ : ∃ wo : World, wo = wr := ⟨_, rfl⟩
      have HS2 : Hid (TenIn wo 0 (.slice (some ⟨wo.heap.size, 0, none⟩) 1 1) (wo.alloc (.cells #[.int .i64 1] 3))) := Lib.hid
        ⟨some ⟨wo.heap.size, 0, none⟩, 1, rfl, ⟨(Row.new (E := 3) wo #[.int .i64 1]).reads0, by decide, by simp [maxLen]⟩, (Below.refl _ _).alloc (Nat.le_refl _) _⟩
      go_wp2_with fail
      go_loopw [7, 8] (fun dv iv wr => ∃ (j : Nat) (t : Int), j ≤ z ∧ t = pt + 1 + (j : Int) ∧ iv = .int .i64 t ∧ TenIn wo j dv wr) (fun _ iv _ => (5000 - intOf iv).toNat)
      case atStart => exact ⟨0, pt + 1, Nat.zero_le _, by simp, rfl, HS2.out⟩
      case round =>
        obtain ⟨j, t, hj, ht, rfl, a2, c2, rfl, hd2, hb2⟩ := hrel
        clear HS2
        have ht0 : 0 ≤ t := by omega
        have ht1 : t ≤ 2001 := by omega
        have HT := Lib.hid ht
        by_cases hjz : j < z
        · have q1 : 0 ≤ pt := by rcases HP.out with ⟨_, h⟩ | ⟨h, _⟩ <;> omega
          have q2 : decide (0 ≤ pt) = true := decide_eq_true q1
          have q3 : t < (s.size : Int) := by rcases HP.out with ⟨_, h⟩ | ⟨_, h⟩ <;> omega
          have q4 : decide (t < (s.size : Int)) = true := decide_eq_true q3
          obtain ⟨D0, hD0⟩ : ∃ D0, D0 = D (10 ^ j) := ⟨_, rfl⟩
          have HL0 : Hid ((D0.map i64v).length = j + 1) := Lib.hid (by rw [List.length_map, hD0, D_ten_len])
          have hrow1 : Row 3 (wr.alloc (.cells #[.int .i64 0] 3)) wr.heap.size 1 [.int .i64 0] := Row.new (E := 3) wr #[.int .i64 0]
          have hrd : Reads (wr.alloc (.cells #[.int .i64 0] 3)) a2 (D0.map i64v) := by rw [hD0]; exact hd2.1.kept ((Below.refl wr.heap.size wr).alloc (Nat.le_refl _) _)
          have HC1 : Hid (∀ u ∈ D0.map i64v, u.oneCell' = true) := Lib.hid (by
            intro u hu
            obtain ⟨z, _, rfl⟩ := List.mem_map.1 hu
            rfl)
          have HB2 := Lib.hid hb2
          have HD0 := Lib.hid hD0
          have hc2 : j + 1 ≤ c2 := by have := hd2.2.1; rw [D_ten_len] at this; exact this
          have hc3 : c2 ≤ maxLen := hd2.2.2
          clear ht hd2 hb2 hD0
          go_wp2_with (first | (at_builtin; refine wpList_append_row _ rfl (.tmp 69) (.tmp 70) 32 rfl 3 (.int .i64 0) 8 Tryz.underlying32 info_int rfl wr.heap.size 1 1 [.int .i64 0] rfl hrow1 rfl (by simp [maxLen]) a2 (j + 1) c2 (D0.map i64v) rfl HL0.out hrd HC1.out (by unfold maxLen; omega) (by omega) ?_; intro g' cap' w2 hr2 hcap2 hg2 hgg) | fail)
          have hbw2 : Below wr.heap.size wr w2 := ((Below.refl wr.heap.size wr).alloc (Nat.le_refl _) _).grown hg2 (by simp) (fun k hk => by cases hk; exact Nat.le_refl _)
          have HNX := Lib.hid (ten_next HD0.out hr2 hcap2)
          have HB4 := Lib.hid (HB2.out.trans (hbw2.mono HB2.out.size))
          clear hr2 hcap2 hbw2 hgg hg2 hrow1 hrd HC1
          go_wp2_with fail
          go_roundw
          case rel => exact ⟨j + 1, t + 1, by omega, by have := HT.out; omega, rfl, some ⟨g', 0, none⟩, cap', by first | rfl | (congr 1; omega), HNX.out, HB4.out⟩
          case measure => simp [intOf] <;> omega
        · obtain rfl : j = z := by omega
          obtain ⟨N, hN⟩ : ∃ N, numTxt Z = N := ⟨_, rfl⟩
          have hb2' := HBX.out.trans (hb2.mono HBX.out.size)
          have HCUT : Hid (Calls Tryz.prog 96 #[.slice a1 Z.length c1] wr fun e w' => e = .returned (.slice a1 (D N).length c1) ∧ DAt wr a1 c1 N ∧ wr = w') := Lib.hid (by
            have hr := HO.out.reads.kept hb2
            rw [dsB_cells HALL.out] at hr
            have hle := HO.out.le
            have e : (dsB Z).length = Z.length := by simp [dsB]
            have := cut_quiet (v := N) hr (by rw [e]; simpa using hle) HO.out.1 (dsB_dig HALL.out) (by rw [dsB_val, hN])
            rwa [e] at this)
          have hDN : (D N).length ≤ 2000 := by
            have h1 := numTxt_lt HALL.out
            rw [hN] at h1
            have := (D_len N Z.length).2 h1
            omega
          have HLOW : Hid (DAt wr a1 c1 N → Calls Tryz.prog 45 #[.agg #[.bool false, .slice a1 (D N).length c1, .slice a2 (j + 1) c2]] wr (GotD wr (mkQ false N (10 ^ j)))) := Lib.hid fun hn => by
            have := (Low_q (s := false) hn hd2 (Nat.pow_pos (by omega)) (by omega) (by rw [D_ten_len]; omega)).mono fun e W' hg => hg.got (Below.refl wr.heap.size wr)
            rw [D_ten_len] at this
            exact this
          have HQ2 := HQ
          rw [hN] at HQ2
          have HBY := Lib.hid hb2'
          have hx : (decide (0 ≤ pt) = false) ∨ (decide (0 ≤ pt) = true ∧ decide (t < (s.size : Int)) = false) := by
            rcases HP.out with ⟨h, _⟩ | ⟨h, h2⟩
            · exact .inl (decide_eq_false (by omega))
            · exact .inr ⟨decide_eq_true h, decide_eq_false (by omega)⟩
          clear ht hd2 hb2 hb2' hN
          have hfin : ∃ b : Bool, decide ((0 : Int) < (s.size : Int)) = b ∧ decide (0 < s.size) = b ∧ decB l = b ∧ ((decB l = true ∧ mkQ false N (10 ^ j) = decQ l) ∨ (decB l = false ∧ mkQ false N (10 ^ j) = 0)) := by
            rcases Nat.eq_zero_or_pos s.size with h | h
            · obtain ⟨e1, e2⟩ := HQ2.out.2 h
              exact ⟨false, decide_eq_false (by omega), decide_eq_false (by omega), e1, .inr ⟨e1, e2⟩⟩
            · obtain ⟨e1, e2⟩ := HQ2.out.1 h
              exact ⟨true, decide_eq_true (by omega), decide_eq_true h, e1, .inl ⟨e1, e2.symm⟩⟩
          obtain ⟨bb, f1, f2, f3, f4⟩ := hfin
          have HF := Lib.hid (And.intro f3 f4)
          clear f3 f4 HQ HQ2 HP HO HALL HBX
          rcases hx with q1 | ⟨q1, q2⟩
          · have q3 : ¬ 0 ≤ pt := of_decide_eq_false q1
            go_wp2_with fail
            refine HCUT.out.mono ?_
            rintro e w5 ⟨rfl, hdn, rfl⟩
            have HLW := Lib.hid (HLOW.out hdn)
            clear hdn HLOW HCUT
            go_wp2_with fail
            refine HLW.out.mono ?_
            rintro e w5 ⟨z0, z1, z2, z3, z4, z5, z6, rfl, hb5, hv5⟩
            have hbw := HBY.out.trans (hb5.out.mono HBY.out.size)
            obtain ⟨m0, m1, m2, n0, n1, n2⟩ := (HB3.out.kept hbw).cells
            have HE := Lib.hid (dec_end HB3.out HB0.out hbw hv5.out HF.out.1 HF.out.2)
            clear hbw hb5 hv5 HLW
            go_wp2_with fail
            exact bodyPost_ret (v := .tuple #[.agg #[.bool z0, .slice z1 z2 z3, .slice z4 z5 z6], .bool bb]) (by simp [results, Tryz.results47, go_sem, m0, m1, m2]) rfl HE.out
          · have q3 : 0 ≤ pt := of_decide_eq_true q1
            have q4 : ¬ t < (s.size : Int) := of_decide_eq_false q2
            go_wp2_with fail
            refine HCUT.out.mono ?_
            rintro e w5 ⟨rfl, hdn, rfl⟩
            have HLW := Lib.hid (HLOW.out hdn)
            clear hdn HLOW HCUT
            go_wp2_with fail
            refine HLW.out.mono ?_
            rintro e w5 ⟨z0, z1, z2, z3, z4, z5, z6, rfl, hb5, hv5⟩
            have hbw := HBY.out.trans (hb5.out.mono HBY.out.size)
            obtain ⟨m0, m1, m2, n0, n1, n2⟩ := (HB3.out.kept hbw).cells
            have HE := Lib.hid (dec_end HB3.out HB0.out hbw hv5.out HF.out.1 HF.out.2)
            clear hbw hb5 hv5 HLW
            go_wp2_with fail
            exact bodyPost_ret (v := .tuple #[.agg #[.bool z0, .slice z1 z2 z3, .slice z4 z5 z6], .bool bb]) (by simp [results, Tryz.results47, go_sem, m0, m1, m2]) rfl HE.out
    | succ k =>
      have hkl : k < s.size := by omega
      obtain ⟨ch, hch0⟩ : ∃ ch, ch = s[k] := ⟨_, rfl⟩
      have hc : l[k]? = some ch := by rw [hch0]; exact HLB.out k hkl
      have hch : s[k] = ch := hch0.symm
      clear hch0
      rw [show (((k + 1 : Nat) : Int) - 1) = (k : Int) from by omega]
      have hcb : (ch.toNat : Int) ≤ 255 := by have := ch.toNat_lt; omega
      have hkk : ((k : Int) < (s.size : Int)) := by omega
      have HBX := Lib.hid hB
      have HC := Lib.hid hc
      have hbl := hB.size
      clear hc hB
      by_cases h46 : ch = 46
      · have e46 : ((ch.toNat : Int) == 46) = true := by rw [h46]; rfl
        have e48 : ¬ (48 : Int) ≤ (ch.toNat : Int) := by rw [h46]; decide
        have d48 : decide ((48 : Int) ≤ (ch.toNat : Int)) = false := decide_eq_false e48
        have HC' : Hid (l[k]? = some 46) := Lib.hid (by rw [HC.out, h46])
        clear h46
        rcases hok.at' with rfl | ⟨p, rfl, h1, h2, h3, h4⟩
        · by_cases h0 : 0 < k
          · have h0i : (0 : Int) < (k : Int) := by omega
            have h0d : decide ((0 : Int) < (k : Int)) = true := decide_eq_true h0i
            have h0e : decide (0 < k) = true := decide_eq_true h0
            by_cases h1 : k + 1 < s.size
            · have h1i : (k : Int) < (s.size : Int) - 1 := by omega
              have h1d : decide ((k : Int) < (s.size : Int) - 1) = true := decide_eq_true h1i
              have HD := Lib.hid (hok.point HC'.out h0 (by rw [HLL.out]; exact h1))
              have HO := Lib.hid ho
              clear ho hok HC
              go_wp2_with fail
              go_roundw
              case rel => exact ⟨k, (k : Int), by omega, rfl, rfl, a1, c1, by rw [dzs_point], by rw [dzs_point]; exact HO.out, HBX.out, HD.out⟩
              case measure => simp [intOf] <;> omega
            · have h1i : ¬ (k : Int) < (s.size : Int) - 1 := by omega
              have h1d : decide ((k : Int) < (s.size : Int) - 1) = false := decide_eq_false h1i
              have HD := Lib.hid (dec_edge HC'.out (.inr (by rw [HLL.out]; omega)))
              have HI := Lib.hid ((Int0_q wr).mono fun e W' hg => hg.got (Below.refl wr.heap.size wr))
              clear ho hok HC
              go_wp2_with fail
              refine HI.out.mono ?_
              rintro e w5 ⟨z0, z1, z2, z3, z4, z5, z6, rfl, hb5, hv5⟩
              have hbw := HBX.out.trans (hb5.out.mono HBX.out.size)
              obtain ⟨m0, m1, m2, n0, n1, n2⟩ := (HB3.out.kept hbw).cells
              have HE := Lib.hid (dec_end HB3.out HB0.out hbw hv5.out HD.out (.inr ⟨HD.out, rfl⟩))
              clear hbw hb5 hv5 HI
              go_wp2_with fail
              exact bodyPost_ret (v := .tuple #[.agg #[.bool z0, .slice z1 z2 z3, .slice z4 z5 z6], .bool false]) (by simp [results, Tryz.results47, go_sem, m0, m1, m2]) rfl HE.out
          · have h0i : ¬ (0 : Int) < (k : Int) := by omega
            have h0d : decide ((0 : Int) < (k : Int)) = false := decide_eq_false h0i
            have h0e : decide (0 < k) = false := decide_eq_false h0
            have HD := Lib.hid (dec_edge HC'.out (.inl (by omega)))
            have HI := Lib.hid ((Int0_q wr).mono fun e W' hg => hg.got (Below.refl wr.heap.size wr))
            clear ho hok HC
            go_wp2_with fail
            refine HI.out.mono ?_
            rintro e w5 ⟨z0, z1, z2, z3, z4, z5, z6, rfl, hb5, hv5⟩
            have hbw := HBX.out.trans (hb5.out.mono HBX.out.size)
            obtain ⟨m0, m1, m2, n0, n1, n2⟩ := (HB3.out.kept hbw).cells
            have HE := Lib.hid (dec_end HB3.out HB0.out hbw hv5.out HD.out (.inr ⟨HD.out, rfl⟩))
            clear hbw hb5 hv5 HI
            go_wp2_with fail
            exact bodyPost_ret (v := .tuple #[.agg #[.bool z0, .slice z1 z2 z3, .slice z4 z5 z6], .bool false]) (by simp [results, Tryz.results47, go_sem, m0, m1, m2]) rfl HE.out
        · have hp0 : ¬ (p : Int) < 0 := by omega
          have hp1 : decide ((p : Int) < 0) = false := decide_eq_false hp0
          have HD := Lib.hid (dec_two HC'.out h4 (by omega))
          clear h4
          have HI := Lib.hid ((Int0_q wr).mono fun e W' hg => hg.got (Below.refl wr.heap.size wr))
          clear ho hok HC
          go_wp2_with fail
          refine HI.out.mono ?_
          rintro e w5 ⟨z0, z1, z2, z3, z4, z5, z6, rfl, hb5, hv5⟩
          have hbw := HBX.out.trans (hb5.out.mono HBX.out.size)
          obtain ⟨m0, m1, m2, n0, n1, n2⟩ := (HB3.out.kept hbw).cells
          have HE := Lib.hid (dec_end HB3.out HB0.out hbw hv5.out HD.out (.inr ⟨HD.out, rfl⟩))
          clear hbw hb5 hv5 HI
          go_wp2_with fail
          exact bodyPost_ret (v := .tuple #[.agg #[.bool z0, .slice z1 z2 z3, .slice z4 z5 z6], .bool false]) (by simp [results, Tryz.results47, go_sem, m0, m1, m2]) rfl HE.out
      · have e46 : ((ch.toNat : Int) == 46) = false := by
          rw [beq_eq_false_iff_ne]
          intro e
          exact h46 (UInt8.toNat_inj.1 (by show ch.toNat = 46; omega))
        by_cases h48 : ch.toNat < 48
        · have e48 : ¬ (48 : Int) ≤ (ch.toNat : Int) := by omega
          have d48 : decide ((48 : Int) ≤ (ch.toNat : Int)) = false := decide_eq_false e48
          have HD := Lib.hid (dec_bad HC.out h46 (by unfold digB; rw [decide_eq_false (by omega)]; rfl))
          clear h46
          have HI := Lib.hid ((Int0_q wr).mono fun e W' hg => hg.got (Below.refl wr.heap.size wr))
          clear ho hok HC
          go_wp2_with fail
          refine HI.out.mono ?_
          rintro e w5 ⟨z0, z1, z2, z3, z4, z5, z6, rfl, hb5, hv5⟩
          have hbw := HBX.out.trans (hb5.out.mono HBX.out.size)
          obtain ⟨m0, m1, m2, n0, n1, n2⟩ := (HB3.out.kept hbw).cells
          have HE := Lib.hid (dec_end HB3.out HB0.out hbw hv5.out HD.out (.inr ⟨HD.out, rfl⟩))
          clear hbw hb5 hv5 HI
          go_wp2_with fail
          exact bodyPost_ret (v := .tuple #[.agg #[.bool z0, .slice z1 z2 z3, .slice z4 z5 z6], .bool false]) (by simp [results, Tryz.results47, go_sem, m0, m1, m2]) rfl HE.out
        · have e48 : (48 : Int) ≤ (ch.toNat : Int) := by omega
          have d48 : decide ((48 : Int) ≤ (ch.toNat : Int)) = true := decide_eq_true e48
          by_cases h57 : 57 < ch.toNat
          · have e57 : ¬ (ch.toNat : Int) ≤ 57 := by omega
            have d57 : decide ((ch.toNat : Int) ≤ 57) = false := decide_eq_false e57
            have HD := Lib.hid (dec_bad HC.out h46 (by unfold digB; rw [decide_eq_false (p := ch.toNat ≤ 57) (by omega), Bool.and_false]))
            clear h46
            have HI := Lib.hid ((Int0_q wr).mono fun e W' hg => hg.got (Below.refl wr.heap.size wr))
            clear ho hok HC
            go_wp2_with fail
            refine HI.out.mono ?_
            rintro e w5 ⟨z0, z1, z2, z3, z4, z5, z6, rfl, hb5, hv5⟩
            have hbw := HBX.out.trans (hb5.out.mono HBX.out.size)
            obtain ⟨m0, m1, m2, n0, n1, n2⟩ := (HB3.out.kept hbw).cells
            have HE := Lib.hid (dec_end HB3.out HB0.out hbw hv5.out HD.out (.inr ⟨HD.out, rfl⟩))
            clear hbw hb5 hv5 HI
            go_wp2_with fail
            exact bodyPost_ret (v := .tuple #[.agg #[.bool z0, .slice z1 z2 z3, .slice z4 z5 z6], .bool false]) (by simp [results, Tryz.results47, go_sem, m0, m1, m2]) rfl HE.out
          · have e57 : (ch.toNat : Int) ≤ 57 := by omega
            have d57 : decide ((ch.toNat : Int) ≤ 57) = true := decide_eq_true e57
            have hdig : digB ch = true := by unfold digB; rw [decide_eq_true (by omega), decide_eq_true (by omega)]; rfl
            have HDO := Lib.hid (hok.digit HC.out hdig)
            have HV := Lib.hid (dzs_next HC.out hok)
            obtain ⟨m, hm⟩ : ∃ m, m = (dzs l (k + 1) pt).length := ⟨_, rfl⟩
            have hmb : m ≤ 2000 := by rw [hm]; have := @dzs_len l (k + 1) pt; have := HLL.out; omega
            have hmk : (dzs l k pt).length = m + 1 := by rw [HV.out, List.length_cons, hm]
            have hV2 : (dzs l k pt).reverse.map (·.toNat) = (dzs l (k + 1) pt).reverse.map (·.toNat) ++ [ch.toNat] := by rw [HV.out, List.reverse_cons, List.map_append]; rfl
            rw [← hm]
            have hol : ((dzs l (k + 1) pt).reverse.map (·.toNat)).length = m := by simp [hm]
            have ho1 := ho.kept ((Below.refl wr.heap.size wr).alloc (Nat.le_refl _) (.cells #[dg48 ch.toNat] 3))
            have hcell : (wr.alloc (.cells #[dg48 ch.toNat] 3)).cell? ⟨wr.heap.size, 0, none⟩ = some (dg48 ch.toNat) := (Row.new (E := 3) wr #[dg48 ch.toNat]).cell 0 _ rfl
            have HBLK := Lib.hid (fun g => ho.blk_ge (g := g))
            generalize (dzs l (k + 1) pt).reverse.map (·.toNat) = O at *
            have HC2 := Lib.hid hcell
            have HO := Lib.hid ho1
            have HOL := Lib.hid hol
            have HMK := Lib.hid hmk
            have HV2 := Lib.hid hV2
            have hp1 : -1 ≤ pt := by rcases hok.at' with rfl | ⟨p, rfl, _⟩ <;> omega
            clear hcell ho1 hol hmk hV2 HV hm ho hok h46
            go_wp2_with (first | (at_builtin; refine wpList_append_one _ rfl (.tmp 47) (.tmp 53) 32 rfl 3 (.int .i64 0) 8 Tryz.underlying32 info_int rfl dg48 W0.heap.size a1 _ _ O rfl HO.out HOL.out ⟨wr.heap.size, 0, none⟩ 1 ch.toNat rfl HC2.out rfl (by unfold maxLen; omega) (by omega) (by simp <;> omega) ?_; intro g' cap' w' hrow' hcap hgrow hg') | fail)
            have HR := Lib.hid (DecIn.next HV2.out HDO.out HMK.out HBX.out HBLK.out hrow' hcap hgrow hg')
            clear hrow' hgrow
            go_wp2_with fail
            go_roundw
            case rel => exact ⟨k, pt, by omega, rfl, rfl, HR.out⟩
            case measure => simp [intOf] <;> omega
end Go.Proofs.YtomoemgoglghlaaGreatDoor

/-
  RatioReads: the law's walk.
-/
set_option linter.unusedVariables false
set_option linter.unusedSimpArgs false
namespace Go.Proofs.YtomoemgoglghlaaGreatDoor
open Go.RowKit Rep

theorem vq_zero (W : World) : VQ 0 (false, (none, 0, 0), (none, 0, 0)) W := ⟨by decide, rfl, rfl, AtQ.zero W⟩
theorem szQ_dec {l : List UInt8} (h : decB l = true) {k : Nat} (hl : l.length ≤ k) : szQ (decQ l) ≤ k + 1 := by
  unfold decB isDigs at h
  simp only [Bool.and_eq_true] at h
  have hall := h.2.2
  have hlt := numTxt_lt hall
  have hle : (cutA l ++ cutZ l).length ≤ l.length := by
    rw [List.length_append]
    unfold cutA cutZ
    split
    · simp
    · simp; omega
  have hz : (cutZ l).length ≤ k := by rw [List.length_append] at hle; omega
  unfold decQ
  refine szQ_mk _ _ (Nat.pow_pos (by omega)) ?_ ?_
  · have := L_of_dec hlt; omega
  · have := L_pow (cutZ l).length; omega
/-- What a bench lets the program's Decimal be. -/
structure Dec1 (b m : Nat) (l : List UInt8) (W0 : World) (ok : Bool) (v : RawR) (W : World) : Prop where
  below : Below W0.heap.size W0 W
  is : (decB l = false ∧ ok = false ∧ VQ 0 v W ∧ Bench W b m false) ∨ (decB l = true ∧ ok = (!ovQ m (decQ l)) ∧ VQ (outQ m (decQ l)) v W ∧ Bench W b m (ovQ m (decQ l)))
theorem dec_prog {W0 W : World} {m : Nat} {s : ByteArray} (hb : Bench W W0.heap.size m false) (hB : Below W0.heap.size W0 W) (hT : Tab W) (hs : s.size ≤ 9999) :
    Calls Tryz.prog 46 #[.pointer (some ⟨W0.heap.size, 0, none⟩), .string s] W fun e W' => ∃ t z1 m1 k1 z2 m2 k2 ok, e = .returned (.tuple #[.agg #[.bool t, .slice z1 m1 k1, .slice z2 m2 k2], .bool ok]) ∧ Hid (Dec1 W0.heap.size m s.data.toList W0 ok (t, (z1, m1, k1), (z2, m2, k2)) W') := by
  refine (Decimal_q hb hT hs).mono ?_
  intro e W' hg
  rcases hg with ⟨h1, rfl, h2⟩ | ⟨h1, a1, c1, a2, c2, rfl, hat, hbe, hg⟩
  · exact ⟨_, _, _, _, _, _, _, _, rfl, Lib.hid ⟨hB.trans (h2.mono hB.size), .inl ⟨h1, rfl, vq_zero W', hb.kept h2⟩⟩⟩
  · exact ⟨_, a1, _, c1, a2, _, c2, _, rfl, Lib.hid ⟨hB.grown hg hB.size (fun k hk => by cases hk; exact Nat.le_refl _), .inr ⟨h1, rfl, ⟨rfl, rfl, rfl, hat⟩, hbe⟩⟩⟩

set_option maxRecDepth 100000 in
set_option maxHeartbeats 8000000 in
theorem readsR_walk {n : Int} {s : ByteArray} {w : World} (hn : n ≤ 9223372036854775807) (hs : s.size ≤ maxLen) (hT : Tab w) :
    Calls Tryz.prog 5 #[.int .i64 n, .string s] w (Holds w) := by
  have HSP := Lib.hid (speaks02 hT)
  have HT := Lib.hid hT
  obtain ⟨m, hm1, hm2, hmx, hnew⟩ := new_for n hn
  have HNEW := Lib.hid hnew
  have HM : Hid (m ≤ maxLen) := Lib.hid hm2
  unfold maxLen at hs
  clear hn hT hnew hm1 hm2
  go_enter Tryz.func5, Tryz.ntmps5
  go_wp2_with fail
  refine HSP.out.mono ?_
  rintro e w1 ⟨rfl, hb1⟩
  have HB1 := Lib.hid hb1
  have HT1 := Lib.hid (HT.out.kept hb1)
  clear hb1 HSP HT
  by_cases hlong : 60 < s.size
  · have q1 : decide ((60 : Int) < (s.size : Int)) = true := decide_eq_true (by omega)
    have q2 : (60 : Int) < (s.size : Int) := by omega
    clear hlong
    go_wp2_with fail
    go_ret
    exact ⟨rfl, HB1.out⟩
  · have q1 : decide ((60 : Int) < (s.size : Int)) = false := decide_eq_false (by omega)
    have q2 : ¬ (60 : Int) < (s.size : Int) := by omega
    have hs60 : s.size ≤ 60 := by omega
    clear hlong
    go_wp2_with fail
    refine (HNEW.out w1).mono ?_
    rintro e w' ⟨rfl, rfl⟩
    have hba : Below w1.heap.size w1 (w1.alloc (.cells #[.int .i64 (m : Int), .bool false] 116)) := (Below.refl _ _).alloc (Nat.le_refl _) _
    have HD := Lib.hid (dec_prog (W0 := w1) (s := s) (m := m) (GivesBench.bench) hba (HT1.out.kept hba) (by omega))
    obtain ⟨l, hl⟩ : ∃ l, l = s.data.toList := ⟨_, rfl⟩
    have hll : l.length = s.size := by rw [hl]; exact size_list s
    have HDD := Lib.hid (fun W => DecimalD_q s W (by omega))
    rw [← hl] at HD HDD
    have HLL := Lib.hid hll
    clear hba hl hll HNEW
    go_wp2_with fail
    refine HD.out.mono ?_
    rintro e w3 ⟨s3, x1, n1, k1, x2, n2, k2, ok, rfl, HD3⟩
    have ha3 := (Below.refl w3.heap.size w3).alloc (Nat.le_refl _) (.cells #[.bool s3, .slice x1 n1 k1, .slice x2 n2 k2] 27)
    have HK3 := Lib.hid (keep3 (heap_alloc_new w3 (.cells #[.bool s3, .slice x1 n1 k1, .slice x2 n2 k2] 27)))
    have HA3 := Lib.hid ha3
    clear ha3 HD
    go_wp2_with fail
    refine (HDD.out _).mono ?_
    rintro e w4 ⟨q, s4, y1, m1, j1, y2, m2, j2, rfl, HV4, HB4, HQ4⟩
    have hb34 := HA3.out.trans (HB4.out.mono HA3.out.size)
    obtain ⟨g0, g1, g2, _⟩ := HK3.out w4 HB4.out
    have ha4 := (Below.refl w4.heap.size w4).alloc (Nat.le_refl _) (.cells #[.bool s4, .slice y1 m1 j1, .slice y2 m2 j2] 34)
    have HZQ : Hid (szQ q ≤ 100) := Lib.hid (by
      rcases HQ4.out with ⟨h1, rfl⟩ | ⟨_, rfl⟩
      · have := szQ_dec h1 (k := 60) (by have := HLL.out; omega); omega
      · rw [szQ_zero]; omega)
    have HFM := Lib.hid (got_form (HV4.out.kept ha4) HZQ.out (Below.refl _ _))
    have HA4 := Lib.hid (hb34.trans (ha4.mono hb34.size))
    have HA4' := Lib.hid (HB4.out.trans (ha4.mono HB4.out.size))
    clear ha4 hb34 HDD HV4 HB4 HA3
    go_wp2_with fail
    refine HFM.out.mono ?_
    rintro e w5 ⟨s5, u1, i1, v1, u2, i2, v2, rfl, HB5, HV5⟩
    have hb35 := HA4.out.trans (HB5.out.mono HA4.out.size)
    obtain ⟨g0, g1, g2, _⟩ := HK3.out w5 (HA4'.out.trans (HB5.out.mono HA4'.out.size))
    have hlt5 : w3.heap.size < w5.heap.size := World.block_lt_of_cell? _ _ g0
    have ha5 := (Below.refl w5.heap.size w5).alloc (Nat.le_refl _) (.cells #[.bool s5, .slice u1 i1 v1, .slice u2 i2 v2] 27)
    have hb36 := hb35.trans (ha5.mono hb35.size)
    have HBL := Lib.hid (HB1.out.trans ((HD3.out.below.trans (hb36.mono HD3.out.below.size)).mono HB1.out.size))
    have HVY := Lib.hid (HV5.out.kept ha5)
    have HKX : Hid (∀ W, Below (w5.alloc (.cells #[.bool s5, .slice u1 i1 v1, .slice u2 i2 v2] 27)).heap.size (w5.alloc (.cells #[.bool s5, .slice u1 i1 v1, .slice u2 i2 v2] 27)) W → _) := Lib.hid fun W h => HK3.out W (((HA4'.out.trans (HB5.out.mono HA4'.out.size)).trans (ha5.mono (HA4'.out.trans (HB5.out.mono HA4'.out.size)).size)).trans (h.mono ((HA4'.out.trans (HB5.out.mono HA4'.out.size)).trans (ha5.mono (HA4'.out.trans (HB5.out.mono HA4'.out.size)).size)).size))
    have HKY := Lib.hid (keep3 (heap_alloc_new w5 (.cells #[.bool s5, .slice u1 i1 v1, .slice u2 i2 v2] 27)))
    have HB36 := Lib.hid hb36
    have hne5 : w3.heap.size ≠ w5.heap.size := by omega
    clear hb35 ha5 hb36 HFM HA4 HA4' HB5 HV5 HK3
    rcases HD3.out.is with ⟨hd, rfl, hx, hbe⟩ | ⟨hd, hok, hx, hbe⟩
    · have hx6 := hx.kept HB36.out
      have HSM := Lib.hid (got_same hx6 (vq_zero (w5.alloc (.cells #[.bool s5, .slice u1 i1 v1, .slice u2 i2 v2] 27))) (by rw [szQ_zero]; omega) (Below.refl (w5.alloc (.cells #[.bool s5, .slice u1 i1 v1, .slice u2 i2 v2] 27)).heap.size (w5.alloc (.cells #[.bool s5, .slice u1 i1 v1, .slice u2 i2 v2] 27))))
      have HOV := Lib.hid (fun W (h : Below (w5.alloc (.cells #[.bool s5, .slice u1 i1 v1, .slice u2 i2 v2] 27)).heap.size (w5.alloc (.cells #[.bool s5, .slice u1 i1 v1, .slice u2 i2 v2] 27)) W) => over_any W w1.heap.size m false ((hbe.kept HB36.out).kept h))
      rw [hd]
      clear hd hx hbe hx6 HQ4 HZQ
      go_wp2_with fail
      refine HSM.out.mono ?_
      rintro e w7 ⟨rfl, HB7⟩
      have HO7 := Lib.hid (HOV.out w7 HB7.out)
      have HE := Lib.hid (HBL.out.trans (HB7.out.mono HBL.out.size))
      clear HSM HOV HB7
      go_wp2_with fail
      refine HO7.out.mono ?_
      rintro e w8 ⟨rfl, rfl⟩
      go_wp2_with fail
      go_ret
      exact ⟨rfl, HE.out⟩
    · have hq : q = decQ l := by
        rcases HQ4.out with ⟨_, h⟩ | ⟨h, _⟩
        · exact h
        · rw [hd] at h; cases h
      subst hq
      obtain ⟨o, ho⟩ : ∃ o, ovQ m (decQ l) = o := ⟨_, rfl⟩
      have hx6 := hx.kept HB36.out
      have hbe6 := hbe.kept HB36.out
      rw [hd]
      rw [ho] at hok hbe6
      subst hok
      have HFT : Hid (Calls Tryz.prog 48 #[.agg #[.bool s5, .slice u1 i1 v1, .slice u2 i2 v2], .int .i64 (m : Int)] (w5.alloc (.cells #[.bool s5, .slice u1 i1 v1, .slice u2 i2 v2] 27)) (GotV (w5.alloc (.cells #[.bool s5, .slice u1 i1 v1, .slice u2 i2 v2] 27)) (.bool (!o)))) := Lib.hid (by
        obtain ⟨e1, d1⟩ := HVY.out.eq
        have hz := HZQ.out
        unfold szQ at hz
        have := Fits_any (w := (w5.alloc (.cells #[.bool s5, .slice u1 i1 v1, .slice u2 i2 v2] 27))) (s := ngQ (decQ l)) (a1 := u1) (a2 := u2) (l1 := (L (mgQ (decQ l))).length) (c1 := v1) (l2 := (L (denN (decQ l).den)).length) (c2 := v2) (m := m) (by omega) (by omega) (by have := HM.out; unfold maxLen at this; omega)
        rw [e1, ← ho]
        exact this.mono fun e W' h => ⟨h.1, Lib.hid h.2⟩)
      have HOV := Lib.hid (fun W (h : Below (w5.alloc (.cells #[.bool s5, .slice u1 i1 v1, .slice u2 i2 v2] 27)).heap.size (w5.alloc (.cells #[.bool s5, .slice u1 i1 v1, .slice u2 i2 v2] 27)) W) => over_any W w1.heap.size m o (hbe6.kept h))
      cases o
      case true =>
        have hq0 : outQ m (decQ l) = 0 := by unfold outQ; rw [if_pos ho]
        rw [hq0] at hx6
        have HSM := Lib.hid (fun W (h : Below (w5.alloc (.cells #[.bool s5, .slice u1 i1 v1, .slice u2 i2 v2] 27)).heap.size (w5.alloc (.cells #[.bool s5, .slice u1 i1 v1, .slice u2 i2 v2] 27)) W) => got_same (hx6.kept h) (vq_zero W) (by rw [szQ_zero]; omega) h)
        clear hd hx hbe hx6 hbe6 HQ4 HZQ ho hq0
        go_wp2_with fail
        refine HFT.out.mono ?_
        rintro e w7 ⟨rfl, HB7⟩
        obtain ⟨g0, g1, g2, _⟩ := HKX.out w7 HB7.out
        have HSM7 := Lib.hid (HSM.out w7 HB7.out)
        clear HSM HFT
        go_wp2_with fail
        refine HSM7.out.mono ?_
        rintro e w8 ⟨rfl, HB8⟩
        have HO8 := Lib.hid (HOV.out w8 HB8.out)
        have HE := Lib.hid (HBL.out.trans (HB8.out.mono HBL.out.size))
        clear HSM7 HOV HB7 HB8
        go_wp2_with fail
        refine HO8.out.mono ?_
        rintro e w9 ⟨rfl, rfl⟩
        go_wp2_with fail
        go_ret
        exact ⟨rfl, HE.out⟩
      case false =>
        have hq0 : outQ m (decQ l) = decQ l := by unfold outQ; rw [if_neg (by rw [ho]; decide)]
        rw [hq0] at hx6
        have HSM := Lib.hid (fun W (h : Below (w5.alloc (.cells #[.bool s5, .slice u1 i1 v1, .slice u2 i2 v2] 27)).heap.size (w5.alloc (.cells #[.bool s5, .slice u1 i1 v1, .slice u2 i2 v2] 27)) W) => got_same (hx6.kept h) (HVY.out.kept h) HZQ.out h)
        clear hd hx hbe hx6 hbe6 HQ4 HZQ ho hq0
        go_wp2_with fail
        refine HFT.out.mono ?_
        rintro e w7 ⟨rfl, HB7⟩
        obtain ⟨g0, g1, g2, _⟩ := HKX.out w7 HB7.out
        obtain ⟨f0, f1, f2, _⟩ := HKY.out w7 HB7.out
        have HSM7 := Lib.hid (HSM.out w7 HB7.out)
        clear HSM HFT
        go_wp2_with fail
        refine HSM7.out.mono ?_
        rintro e w8 ⟨rfl, HB8⟩
        have HO8 := Lib.hid (HOV.out w8 HB8.out)
        have HE := Lib.hid (HBL.out.trans (HB8.out.mono HBL.out.size))
        clear HSM7 HOV HB7 HB8
        go_wp2_with fail
        refine HO8.out.mono ?_
        rintro e w9 ⟨rfl, rfl⟩
        go_wp2_with fail
        go_ret
        exact ⟨rfl, HE.out⟩
end Go.Proofs.YtomoemgoglghlaaGreatDoor

/-
  The ratio laws' helper told, with each closure.
-/
set_option linter.unusedVariables false
set_option linter.unusedSimpArgs false
namespace Go.Proofs.YtomoemgoglghlaaGreatDoor
open Go.RowKit Rep

theorem ToldAt.split {w W0 W : World} {b m : Nat} {q : Rat} {i : Nat × Nat × RawR × RawR} (h : ToldAt w W0 b m q i W) : ∃ W', W = W' ∧ ToldAt w W0 b m q i W' := ⟨W, rfl, h⟩

set_option maxRecDepth 100000 in
set_option maxHeartbeats 16000000 in
theorem told02_1 {w : World} {n : Int} {q : Rat} {cv cu : Value} {a1 a2 : Option Addr} {c1 c2 : Nat} (hn : n ≤ 9223372036854775807) (hq : DgQ w a1 c1 a2 c2 q) (hl1 : (D (mgQ q)).length ≤ 1000000) (hl2 : (D q.den).length ≤ 1000000) (hs : szQ q ≤ 10000)
    (hdo : ∀ (m : Nat) (W : World) (b : Nat), max n 1 = (m : Int) → m ≤ maxLen → Below w.heap.size w W → Bench W b m false → w.heap.size ≤ b → Calls Tryz.prog 15 #[.pointer (some ⟨b, 0, none⟩), cv, cu] W (GivesQ b m q W)) :
    Calls Tryz.prog 14 #[.int .i64 n, .func (.func 15) #[] #[cv, cu], dV q a1 c1 a2 c2] w (Holds w) := by
  obtain ⟨m, hm1, hm2, hmx, hnew⟩ := new_for n hn
  have hdo2 := fun W b => hdo m W b hmx hm2
  obtain ⟨W0, hW0⟩ : ∃ W0, W0 = w.alloc (.cells #[.bool (ngQ q), .slice a1 (D (mgQ q)).length c1, .slice a2 (D q.den).length c2] 34) := ⟨_, rfl⟩
  have hB0 : Below w.heap.size w W0 := by rw [hW0]; exact (Below.refl _ _).alloc (Nat.le_refl _) _
  have hk0 : W0.heap[w.heap.size]? = some (.cells #[.bool (ngQ q), .slice a1 (D (mgQ q)).length c1, .slice a2 (D q.den).length c2] 34 (0, 0)) := by rw [hW0]; exact heap_alloc_new w _
  have HNEW : Hid (Calls Tryz.prog 41 #[.int .i64 n] W0 (fun e w1 => e = .returned (.pointer (some ⟨W0.heap.size, 0, none⟩)) ∧ Bench w1 W0.heap.size m false ∧ Below W0.heap.size W0 w1)) := Lib.hid ((hnew W0).mono (by
    rintro e w1 ⟨rfl, rfl⟩
    exact ⟨rfl, GivesBench.bench, (Below.refl _ _).alloc (Nat.le_refl _) _⟩))
  have HK : Hid (∀ W, Below W0.heap.size W0 W → W.cell? ⟨w.heap.size, 0, none⟩ = some (.bool (ngQ q)) ∧ W.cell? ⟨w.heap.size, 1, none⟩ = some (.slice a1 (D (mgQ q)).length c1) ∧ W.cell? ⟨w.heap.size, 2, none⟩ = some (.slice a2 (D q.den).length c2)) := Lib.hid fun W h => by
    obtain ⟨f0, f1, f2, _⟩ := keep3 hk0 W h
    exact ⟨f0, f1, f2⟩
  obtain ⟨p0, p1, p2⟩ := HK.out W0 (Below.refl _ _)
  have HWL : Hid (w.heap.size < W0.heap.size) := Lib.hid (Array.getElem?_eq_some_iff.1 hk0).1
  have HW0 := Lib.hid hW0
  have HQ := Lib.hid (hq.kept hB0)
  have HDO := Lib.hid hdo2
  have HB := Lib.hid hB0
  have HM : Hid (m ≤ 9223372036854775807) := Lib.hid (by unfold maxLen at hm2; omega)
  have HL1 := Lib.hid hl1
  have HL2 := Lib.hid hl2
  have HS := Lib.hid hs
  clear hW0 hB0 hk0 hq hdo hdo2 hnew hm1 hm2 hl1 hl2 hs
  unfold dV ratV
  go_enter Tryz.func14, Tryz.ntmps14
  go_wp2_with fail
  rw [← HW0.out]
  refine HNEW.out.mono ?_
  rintro e w1 ⟨rfl, hbe, hb1⟩
  obtain ⟨p0, p1, p2⟩ := HK.out w1 hb1
  have hlt : W0.heap.size < w1.heap.size := hbe.lt
  obtain ⟨z0, z1, z2, z3⟩ := far HWL.out hb1
  have hne1 : w1.heap.size ≠ W0.heap.size := by omega
  have hne2 : w1.heap.size + 1 ≠ W0.heap.size := by omega
  have hgt2 : W0.heap.size < w1.heap.size + 1 := by omega
  have HDA := Lib.hid (told_do2 (w1 := w1) HB.out rfl hbe hb1 HDO.out (below_drew w1))
  have HDB := Lib.hid (told_do2 (w1 := w1) HB.out rfl hbe hb1 HDO.out (show Below w1.heap.size w1 (w1.alloc (.cells #[.bool false, .slice none 0 0, .slice none 0 0] 27)).drew from Below.drewN' ((Below.refl w1.heap.size w1).alloc (Nat.le_refl _) (.cells #[.bool false, .slice none 0 0, .slice none 0 0] 27)) 1))
  have HDC := Lib.hid (told_do2 (w1 := w1) HB.out rfl hbe hb1 HDO.out (show Below w1.heap.size w1 ((w1.alloc (.cells #[.bool false, .slice none 0 0, .slice none 0 0] 27)).alloc (.cells #[.bool false, .slice none 0 0, .slice none 0 0] 27)).drew from Below.drewN' (((Below.refl w1.heap.size w1).alloc (Nat.le_refl _) (.cells #[.bool false, .slice none 0 0, .slice none 0 0] 27)).alloc (by simp) (.cells #[.bool false, .slice none 0 0, .slice none 0 0] 27)) 1))
  have HZB : Hid (Blank (w1.alloc (.cells #[.bool false, .slice none 0 0, .slice none 0 0] 27)).drew w1.heap.size) := Lib.hid (heap_alloc_new w1 _)
  have HZC : Hid (Blank ((w1.alloc (.cells #[.bool false, .slice none 0 0, .slice none 0 0] 27)).alloc (.cells #[.bool false, .slice none 0 0, .slice none 0 0] 27)).drew w1.heap.size ∧ Blank ((w1.alloc (.cells #[.bool false, .slice none 0 0, .slice none 0 0] 27)).alloc (.cells #[.bool false, .slice none 0 0, .slice none 0 0] 27)).drew (w1.heap.size + 1)) := Lib.hid (by
    refine ⟨?_, ?_⟩
    · exact Blank.kept (heap_alloc_new w1 _) (Below.drewN' ((Below.refl _ _).alloc (Nat.le_refl _) (.cells #[.bool false, .slice none 0 0, .slice none 0 0] 27)) 1)
    · have := heap_alloc_new (w1.alloc (.cells #[.bool false, .slice none 0 0, .slice none 0 0] 27)) (.cells #[.bool false, .slice none 0 0, .slice none 0 0] 27)
      simpa [Blank, World.drew] using this)
  have HE1 : Hid (w1.heap.size ≠ w1.heap.size + 1) := Lib.hid (by omega)
  clear hbe hb1 HDO HNEW HW0
  go_wp2_with fail
  refine wp_region_ex (ι := Nat × Nat × RawR × RawR) (fun i => [(12, .func (.func 15) #[] #[cv, cu]), (13, .pointer (some ⟨W0.heap.size, 0, none⟩)), (14, .agg #[.bool i.2.2.1.1, .slice i.2.2.1.2.1.1 i.2.2.1.2.1.2.1 i.2.2.1.2.1.2.2, .slice i.2.2.1.2.2.1 i.2.2.1.2.2.2.1 i.2.2.1.2.2.2.2]),
    (15, .agg #[.bool (ngQ q), .slice a1 (D (mgQ q)).length c1, .slice a2 (D q.den).length c2]), (16, .agg #[.bool i.2.2.2.1, .slice i.2.2.2.2.1.1 i.2.2.2.2.1.2.1 i.2.2.2.2.1.2.2, .slice i.2.2.2.2.2.1 i.2.2.2.2.2.2.1 i.2.2.2.2.2.2.2]), (8, .pointer (some ⟨i.1, 0, none⟩)), (9, .pointer (some ⟨i.2.1, 0, none⟩))]) (ToldAt w W0 W0.heap.size m q) ?region ?rest
  case region =>
    go_region_held3 (fun w' => w'.cell? ⟨w.heap.size, 0, none⟩ = some (.bool (ngQ q)) ∧ w'.cell? ⟨w.heap.size, 1, none⟩ = some (.slice a1 (D (mgQ q)).length c1) ∧ w'.cell? ⟨w.heap.size, 2, none⟩ = some (.slice a2 (D q.den).length c2)) (first | with_reducible exact HK.out _ hp4 | with_reducible exact HK.out _ hpa | with_reducible exact HK.out _ hpb | with_reducible exact HK.out _ hpc | go_keep)
      (first
        | (go_at_call 15; (with_reducible refine HDA.out.mono ?_); rintro e wa ⟨s, x1, n1, k1, x2, n2, k2, rfl, HTA, HGA⟩; have hpa := HTA.out.below; obtain ⟨q0, q1, q2⟩ := HK.out _ hpa; obtain ⟨u0, u1, u2, u3⟩ := far HWL.out hpa)
        | (go_at_call 15; (with_reducible refine HDB.out.mono ?_); rintro e wb ⟨s, x1, n1, k1, x2, n2, k2, rfl, HTB, HGB⟩; have hpb := HTB.out.below; obtain ⟨q0, q1, q2⟩ := HK.out _ hpb; obtain ⟨u0, u1, u2, u3⟩ := far HWL.out hpb; have HBB := Lib.hid (HZB.out.grown HGB.out hne1))
        | (go_at_call 15; (with_reducible refine HDC.out.mono ?_); rintro e wc ⟨s, x1, n1, k1, x2, n2, k2, rfl, HTC, HGC⟩; have hpc := HTC.out.below; obtain ⟨q0, q1, q2⟩ := HK.out _ hpc; obtain ⟨u0, u1, u2, u3⟩ := far HWL.out hpc; have HC1 := Lib.hid (HZC.out.1.grown HGC.out hne1); have HC2 := Lib.hid (HZC.out.2.grown HGC.out hne2))
        | (go_at_call 33; (with_reducible refine (told_form HTA.out HQ.out HL1.out HL2.out (Below.refl _ _)).mono ?_); rintro e w4 ⟨t, y1, m1, j1, y2, m2, j2, rfl, H2, HG4⟩; have hp4 := H2.out.below; obtain ⟨r0, r1, r2⟩ := HK.out _ hp4; obtain ⟨o0, o1, o2, o3⟩ := far HWL.out hp4; have hf1 := H2.out.end0a; have hf2 := H2.out.end0b; dsimp only [Go.Proofs.YtomoemgoglghlaaGreatDoor.set3] at hf1 hf2; obtain ⟨WA, hWA, hf3⟩ := hf1.split; obtain ⟨WB, hWB, hf4⟩ := hf2.split; have HF1 := Lib.hid hf3; have HF2 := Lib.hid hf4; have HWA := Lib.hid hWA; have HWB := Lib.hid hWB; clear hf1 hf2 hf3 hf4 hWA hWB)
        | (go_at_call 33; (with_reducible refine (told_form HTA.out HQ.out HL1.out HL2.out ((Below.refl wa.heap.size wa).alloc (Nat.le_refl _) (.cells #[.bool false, .slice none 0 0, .slice none 0 0] 27))).mono ?_); rintro e w4 ⟨t, y1, m1, j1, y2, m2, j2, rfl, H2, HG4⟩; have hp4 := H2.out.below; obtain ⟨r0, r1, r2⟩ := HK.out _ hp4; obtain ⟨o0, o1, o2, o3⟩ := far HWL.out hp4; have HX1 := Lib.hid (Blank.kept (heap_alloc_new wa _) HG4.out); have hf1 := (H2.out.end1a HX1.out HTA.out.lt); have hf2 := (H2.out.end1b HX1.out HTA.out.lt); dsimp only [Go.Proofs.YtomoemgoglghlaaGreatDoor.set3] at hf1 hf2; obtain ⟨WA, hWA, hf3⟩ := hf1.split; obtain ⟨WB, hWB, hf4⟩ := hf2.split; have HF1 := Lib.hid hf3; have HF2 := Lib.hid hf4; have HWA := Lib.hid hWA; have HWB := Lib.hid hWB; clear hf1 hf2 hf3 hf4 hWA hWB; obtain ⟨g0, g1, g2, g3, g4, g5⟩ := HX1.out.cells; obtain ⟨v0, v1, v2⟩ := HX1.out.ne)
        | (go_at_call 33; (with_reducible refine (told_form HTA.out HQ.out HL1.out HL2.out (((Below.refl wa.heap.size wa).alloc (Nat.le_refl _) (.cells #[.bool false, .slice none 0 0, .slice none 0 0] 27)).alloc (by simp) (.cells #[.bool false, .slice none 0 0, .slice none 0 0] 27))).mono ?_); rintro e w4 ⟨t, y1, m1, j1, y2, m2, j2, rfl, H2, HG4⟩; have hp4 := H2.out.below; obtain ⟨r0, r1, r2⟩ := HK.out _ hp4; obtain ⟨o0, o1, o2, o3⟩ := far HWL.out hp4; have HX1 := Lib.hid (Blank.kept (Blank.kept (heap_alloc_new wa _) ((Below.refl _ _).alloc (Nat.le_refl _) _)) HG4.out); have HX2 := Lib.hid (blank_second wa HG4.out); have hf1 := (H2.out.end2 HX1.out HX2.out (Nat.ne_of_lt (Nat.lt_succ_self _)) HTA.out.lt (Nat.lt_succ_of_lt HTA.out.lt)); have hf2 := (H2.out.end2 HX2.out HX1.out (Nat.ne_of_gt (Nat.lt_succ_self _)) (Nat.lt_succ_of_lt HTA.out.lt) HTA.out.lt); dsimp only [Go.Proofs.YtomoemgoglghlaaGreatDoor.set3] at hf1 hf2; obtain ⟨WA, hWA, hf3⟩ := hf1.split; obtain ⟨WB, hWB, hf4⟩ := hf2.split; have HF1 := Lib.hid hf3; have HF2 := Lib.hid hf4; have HWA := Lib.hid hWA; have HWB := Lib.hid hWB; clear hf1 hf2 hf3 hf4 hWA hWB; obtain ⟨g0, g1, g2, g3, g4, g5⟩ := HX1.out.cells; obtain ⟨i0, i1, i2, i3, i4, i5⟩ := HX2.out.cells)
        | (go_at_call 33; (with_reducible refine (told_form HTB.out HQ.out HL1.out HL2.out (Below.refl _ _)).mono ?_); rintro e w4 ⟨t, y1, m1, j1, y2, m2, j2, rfl, H2, HG4⟩; have hp4 := H2.out.below; obtain ⟨r0, r1, r2⟩ := HK.out _ hp4; obtain ⟨o0, o1, o2, o3⟩ := far HWL.out hp4; have HX1 := Lib.hid (HBB.out.kept HG4.out); have hf1 := (H2.out.end1a HX1.out hlt); have hf2 := (H2.out.end1b HX1.out hlt); dsimp only [Go.Proofs.YtomoemgoglghlaaGreatDoor.set3] at hf1 hf2; obtain ⟨WA, hWA, hf3⟩ := hf1.split; obtain ⟨WB, hWB, hf4⟩ := hf2.split; have HF1 := Lib.hid hf3; have HF2 := Lib.hid hf4; have HWA := Lib.hid hWA; have HWB := Lib.hid hWB; clear hf1 hf2 hf3 hf4 hWA hWB; obtain ⟨g0, g1, g2, g3, g4, g5⟩ := HX1.out.cells; obtain ⟨v0, v1, v2⟩ := HX1.out.ne)
        | (go_at_call 33; (with_reducible refine (told_form HTB.out HQ.out HL1.out HL2.out ((Below.refl wb.heap.size wb).alloc (Nat.le_refl _) (.cells #[.bool false, .slice none 0 0, .slice none 0 0] 27))).mono ?_); rintro e w4 ⟨t, y1, m1, j1, y2, m2, j2, rfl, H2, HG4⟩; have hp4 := H2.out.below; obtain ⟨r0, r1, r2⟩ := HK.out _ hp4; obtain ⟨o0, o1, o2, o3⟩ := far HWL.out hp4; have HX2 := Lib.hid (Blank.kept (heap_alloc_new wb _) HG4.out); have HX1 := Lib.hid ((HBB.out.kept ((Below.refl _ _).alloc (Nat.le_refl _) _)).kept HG4.out); have hgh : w1.heap.size ≠ wb.heap.size := Nat.ne_of_lt (Array.getElem?_eq_some_iff.1 HBB.out).1; have hhg := Ne.symm hgh; have hf1 := (H2.out.end2 HX1.out HX2.out hgh hlt HTB.out.lt); have hf2 := (H2.out.end2 HX2.out HX1.out hhg HTB.out.lt hlt); dsimp only [Go.Proofs.YtomoemgoglghlaaGreatDoor.set3] at hf1 hf2; obtain ⟨WA, hWA, hf3⟩ := hf1.split; obtain ⟨WB, hWB, hf4⟩ := hf2.split; have HF1 := Lib.hid hf3; have HF2 := Lib.hid hf4; have HWA := Lib.hid hWA; have HWB := Lib.hid hWB; clear hf1 hf2 hf3 hf4 hWA hWB; obtain ⟨g0, g1, g2, g3, g4, g5⟩ := HX1.out.cells; obtain ⟨i0, i1, i2, i3, i4, i5⟩ := HX2.out.cells)
        | (go_at_call 33; (with_reducible refine (told_form HTC.out HQ.out HL1.out HL2.out (Below.refl _ _)).mono ?_); rintro e w4 ⟨t, y1, m1, j1, y2, m2, j2, rfl, H2, HG4⟩; have hp4 := H2.out.below; obtain ⟨r0, r1, r2⟩ := HK.out _ hp4; obtain ⟨o0, o1, o2, o3⟩ := far HWL.out hp4; have HX1 := Lib.hid (HC1.out.kept HG4.out); have HX2 := Lib.hid (HC2.out.kept HG4.out); have hf1 := (H2.out.end2 HX1.out HX2.out HE1.out hlt hgt2); have hf2 := (H2.out.end2 HX2.out HX1.out (Ne.symm HE1.out) hgt2 hlt); dsimp only [Go.Proofs.YtomoemgoglghlaaGreatDoor.set3] at hf1 hf2; obtain ⟨WA, hWA, hf3⟩ := hf1.split; obtain ⟨WB, hWB, hf4⟩ := hf2.split; have HF1 := Lib.hid hf3; have HF2 := Lib.hid hf4; have HWA := Lib.hid hWA; have HWB := Lib.hid hWB; clear hf1 hf2 hf3 hf4 hWA hWB; obtain ⟨g0, g1, g2, g3, g4, g5⟩ := HX1.out.cells; obtain ⟨i0, i1, i2, i3, i4, i5⟩ := HX2.out.cells))
    all_goals
      refine OnlyEx.mk' ?_
      simp only [HWA.out, HWB.out]
      first
        | (with_reducible refine ⟨_, ?_, HF1.out⟩; simp only [puts, Act.put, List.setIfInBounds_toArray, List.set_cons_zero, List.set_cons_succ]; done)
        | (with_reducible refine ⟨_, ?_, HF2.out⟩; simp only [puts, Act.put, List.setIfInBounds_toArray, List.set_cons_zero, List.set_cons_succ]; done)
  case rest =>
    rintro ⟨g, k, ⟨s, ⟨x1, n1, k1⟩, ⟨x2, n2, k2⟩⟩, ⟨t, ⟨y1, m1, j1⟩, ⟨y2, m2, j2⟩⟩⟩ w5 hF
    obtain ⟨hx, hy, hT⟩ := hF
    unfold LiesR at hx hy
    dsimp only at hx hy hT
    have HFI := Lib.hid (told_fits hT HM.out HS.out)
    have HBL := Lib.hid (HB.out.trans (hT.below.mono HB.out.size))
    have HT := Lib.hid hT
    have HKX := Lib.hid (keep3 hx)
    have HKY := Lib.hid (keep3 hy)
    obtain ⟨g0, g1, g2, _⟩ := HKX.out w5 (Below.refl _ _)
    obtain ⟨i0, i1, i2, _⟩ := HKY.out w5 (Below.refl _ _)
    clear hx hy hT HDA HDB HDC HZB HZC HK HQ p0 p1 p2 hlt hne1 hne2 hgt2 HE1 HB HL1 HL2 HM
    simp only [puts, Act.put, List.setIfInBounds_toArray, List.set_cons_zero, List.set_cons_succ]
    obtain ⟨o, ho⟩ : ∃ o, ovQ m q = o := ⟨_, rfl⟩
    rw [ho] at HFI
    have HO := Lib.hid ho
    clear ho
    cases o
    case true =>
      have HOV := Lib.hid (fun W (h : Below w5.heap.size w5 W) => over_any W W0.heap.size m true (by have := HT.out.bench.kept h; rwa [HO.out] at this))
      have HSA := Lib.hid (told_zero HT.out HO.out)
      clear HO HT
      go_wp2_with fail
      refine (HFI.out _).mono ?_
      rintro e w6 ⟨rfl, hb6⟩
      obtain ⟨g0, g1, g2, _⟩ := HKX.out w6 hb6
      have HV6 := Lib.hid (HOV.out w6 hb6)
      have HB6 := Lib.hid (HBL.out.trans (hb6.mono HBL.out.size))
      clear hb6 HOV HKX HKY HFI HBL
      go_wp2_with fail
      refine HV6.out.mono ?_
      rintro e w7 ⟨rfl, rfl⟩
      go_wp2_with fail
      refine (HSA.out _).mono ?_
      rintro e w8 ⟨rfl, hb8⟩
      have HB8 := Lib.hid (HB6.out.trans (hb8.mono HB6.out.size))
      clear hb8 HSA
      go_wp2_with fail
      go_ret
      exact ⟨rfl, HB8.out⟩
    case false =>
      have HOV := Lib.hid (fun W (h : Below w5.heap.size w5 W) => over_any W W0.heap.size m false (by have := HT.out.bench.kept h; rwa [HO.out] at this))
      have HSA := Lib.hid (told_same HT.out HO.out HS.out)
      clear HO HT
      go_wp2_with fail
      refine (HFI.out _).mono ?_
      rintro e w6 ⟨rfl, hb6⟩
      obtain ⟨g0, g1, g2, _⟩ := HKX.out w6 hb6
      obtain ⟨i0, i1, i2, _⟩ := HKY.out w6 hb6
      have HV6 := Lib.hid (HOV.out w6 hb6)
      have HSB := Lib.hid (HSA.out w6 hb6)
      have HB6 := Lib.hid (HBL.out.trans (hb6.mono HBL.out.size))
      clear hb6 HOV HKX HKY HFI HBL HSA
      go_wp2_with fail
      refine HV6.out.mono ?_
      rintro e w7 ⟨rfl, rfl⟩
      go_wp2_with fail
      refine HSB.out.mono ?_
      rintro e w8 ⟨rfl, hb8⟩
      have HB8 := Lib.hid (HB6.out.trans (hb8.mono HB6.out.size))
      clear hb8 HSB
      go_wp2_with fail
      go_ret
      exact ⟨rfl, HB8.out⟩
end Go.Proofs.YtomoemgoglghlaaGreatDoor

/-
  The ratio laws' helper told, with a further closure.
-/
set_option linter.unusedVariables false
set_option linter.unusedSimpArgs false
namespace Go.Proofs.YtomoemgoglghlaaGreatDoor
open Go.RowKit Rep

set_option maxRecDepth 100000 in
set_option maxHeartbeats 16000000 in
theorem told02_2 {w : World} {n : Int} {q : Rat} {cv cu : Value} {a1 a2 : Option Addr} {c1 c2 : Nat} (hn : n ≤ 9223372036854775807) (hq : DgQ w a1 c1 a2 c2 q) (hl1 : (D (mgQ q)).length ≤ 1000000) (hl2 : (D q.den).length ≤ 1000000) (hs : szQ q ≤ 10000)
    (hdo : ∀ (m : Nat) (W : World) (b : Nat), max n 1 = (m : Int) → m ≤ maxLen → Below w.heap.size w W → Bench W b m false → w.heap.size ≤ b → Calls Tryz.prog 18 #[.pointer (some ⟨b, 0, none⟩), cv, cu] W (GivesQ b m q W)) :
    Calls Tryz.prog 14 #[.int .i64 n, .func (.func 18) #[] #[cv, cu], dV q a1 c1 a2 c2] w (Holds w) := by
  obtain ⟨m, hm1, hm2, hmx, hnew⟩ := new_for n hn
  have hdo2 := fun W b => hdo m W b hmx hm2
  obtain ⟨W0, hW0⟩ : ∃ W0, W0 = w.alloc (.cells #[.bool (ngQ q), .slice a1 (D (mgQ q)).length c1, .slice a2 (D q.den).length c2] 34) := ⟨_, rfl⟩
  have hB0 : Below w.heap.size w W0 := by rw [hW0]; exact (Below.refl _ _).alloc (Nat.le_refl _) _
  have hk0 : W0.heap[w.heap.size]? = some (.cells #[.bool (ngQ q), .slice a1 (D (mgQ q)).length c1, .slice a2 (D q.den).length c2] 34 (0, 0)) := by rw [hW0]; exact heap_alloc_new w _
  have HNEW : Hid (Calls Tryz.prog 41 #[.int .i64 n] W0 (fun e w1 => e = .returned (.pointer (some ⟨W0.heap.size, 0, none⟩)) ∧ Bench w1 W0.heap.size m false ∧ Below W0.heap.size W0 w1)) := Lib.hid ((hnew W0).mono (by
    rintro e w1 ⟨rfl, rfl⟩
    exact ⟨rfl, GivesBench.bench, (Below.refl _ _).alloc (Nat.le_refl _) _⟩))
  have HK : Hid (∀ W, Below W0.heap.size W0 W → W.cell? ⟨w.heap.size, 0, none⟩ = some (.bool (ngQ q)) ∧ W.cell? ⟨w.heap.size, 1, none⟩ = some (.slice a1 (D (mgQ q)).length c1) ∧ W.cell? ⟨w.heap.size, 2, none⟩ = some (.slice a2 (D q.den).length c2)) := Lib.hid fun W h => by
    obtain ⟨f0, f1, f2, _⟩ := keep3 hk0 W h
    exact ⟨f0, f1, f2⟩
  obtain ⟨p0, p1, p2⟩ := HK.out W0 (Below.refl _ _)
  have HWL : Hid (w.heap.size < W0.heap.size) := Lib.hid (Array.getElem?_eq_some_iff.1 hk0).1
  have HW0 := Lib.hid hW0
  have HQ := Lib.hid (hq.kept hB0)
  have HDO := Lib.hid hdo2
  have HB := Lib.hid hB0
  have HM : Hid (m ≤ 9223372036854775807) := Lib.hid (by unfold maxLen at hm2; omega)
  have HL1 := Lib.hid hl1
  have HL2 := Lib.hid hl2
  have HS := Lib.hid hs
  clear hW0 hB0 hk0 hq hdo hdo2 hnew hm1 hm2 hl1 hl2 hs
  unfold dV ratV
  go_enter Tryz.func14, Tryz.ntmps14
  go_wp2_with fail
  rw [← HW0.out]
  refine HNEW.out.mono ?_
  rintro e w1 ⟨rfl, hbe, hb1⟩
  obtain ⟨p0, p1, p2⟩ := HK.out w1 hb1
  have hlt : W0.heap.size < w1.heap.size := hbe.lt
  obtain ⟨z0, z1, z2, z3⟩ := far HWL.out hb1
  have hne1 : w1.heap.size ≠ W0.heap.size := by omega
  have hne2 : w1.heap.size + 1 ≠ W0.heap.size := by omega
  have hgt2 : W0.heap.size < w1.heap.size + 1 := by omega
  have HDA := Lib.hid (told_do2 (w1 := w1) HB.out rfl hbe hb1 HDO.out (below_drew w1))
  have HDB := Lib.hid (told_do2 (w1 := w1) HB.out rfl hbe hb1 HDO.out (show Below w1.heap.size w1 (w1.alloc (.cells #[.bool false, .slice none 0 0, .slice none 0 0] 27)).drew from Below.drewN' ((Below.refl w1.heap.size w1).alloc (Nat.le_refl _) (.cells #[.bool false, .slice none 0 0, .slice none 0 0] 27)) 1))
  have HDC := Lib.hid (told_do2 (w1 := w1) HB.out rfl hbe hb1 HDO.out (show Below w1.heap.size w1 ((w1.alloc (.cells #[.bool false, .slice none 0 0, .slice none 0 0] 27)).alloc (.cells #[.bool false, .slice none 0 0, .slice none 0 0] 27)).drew from Below.drewN' (((Below.refl w1.heap.size w1).alloc (Nat.le_refl _) (.cells #[.bool false, .slice none 0 0, .slice none 0 0] 27)).alloc (by simp) (.cells #[.bool false, .slice none 0 0, .slice none 0 0] 27)) 1))
  have HZB : Hid (Blank (w1.alloc (.cells #[.bool false, .slice none 0 0, .slice none 0 0] 27)).drew w1.heap.size) := Lib.hid (heap_alloc_new w1 _)
  have HZC : Hid (Blank ((w1.alloc (.cells #[.bool false, .slice none 0 0, .slice none 0 0] 27)).alloc (.cells #[.bool false, .slice none 0 0, .slice none 0 0] 27)).drew w1.heap.size ∧ Blank ((w1.alloc (.cells #[.bool false, .slice none 0 0, .slice none 0 0] 27)).alloc (.cells #[.bool false, .slice none 0 0, .slice none 0 0] 27)).drew (w1.heap.size + 1)) := Lib.hid (by
    refine ⟨?_, ?_⟩
    · exact Blank.kept (heap_alloc_new w1 _) (Below.drewN' ((Below.refl _ _).alloc (Nat.le_refl _) (.cells #[.bool false, .slice none 0 0, .slice none 0 0] 27)) 1)
    · have := heap_alloc_new (w1.alloc (.cells #[.bool false, .slice none 0 0, .slice none 0 0] 27)) (.cells #[.bool false, .slice none 0 0, .slice none 0 0] 27)
      simpa [Blank, World.drew] using this)
  have HE1 : Hid (w1.heap.size ≠ w1.heap.size + 1) := Lib.hid (by omega)
  clear hbe hb1 HDO HNEW HW0
  go_wp2_with fail
  refine wp_region_ex (ι := Nat × Nat × RawR × RawR) (fun i => [(12, .func (.func 18) #[] #[cv, cu]), (13, .pointer (some ⟨W0.heap.size, 0, none⟩)), (14, .agg #[.bool i.2.2.1.1, .slice i.2.2.1.2.1.1 i.2.2.1.2.1.2.1 i.2.2.1.2.1.2.2, .slice i.2.2.1.2.2.1 i.2.2.1.2.2.2.1 i.2.2.1.2.2.2.2]),
    (15, .agg #[.bool (ngQ q), .slice a1 (D (mgQ q)).length c1, .slice a2 (D q.den).length c2]), (16, .agg #[.bool i.2.2.2.1, .slice i.2.2.2.2.1.1 i.2.2.2.2.1.2.1 i.2.2.2.2.1.2.2, .slice i.2.2.2.2.2.1 i.2.2.2.2.2.2.1 i.2.2.2.2.2.2.2]), (8, .pointer (some ⟨i.1, 0, none⟩)), (9, .pointer (some ⟨i.2.1, 0, none⟩))]) (ToldAt w W0 W0.heap.size m q) ?region ?rest
  case region =>
    go_region_held3 (fun w' => w'.cell? ⟨w.heap.size, 0, none⟩ = some (.bool (ngQ q)) ∧ w'.cell? ⟨w.heap.size, 1, none⟩ = some (.slice a1 (D (mgQ q)).length c1) ∧ w'.cell? ⟨w.heap.size, 2, none⟩ = some (.slice a2 (D q.den).length c2)) (first | with_reducible exact HK.out _ hp4 | with_reducible exact HK.out _ hpa | with_reducible exact HK.out _ hpb | with_reducible exact HK.out _ hpc | go_keep)
      (first
        | (go_at_call 18; (with_reducible refine HDA.out.mono ?_); rintro e wa ⟨s, x1, n1, k1, x2, n2, k2, rfl, HTA, HGA⟩; have hpa := HTA.out.below; obtain ⟨q0, q1, q2⟩ := HK.out _ hpa; obtain ⟨u0, u1, u2, u3⟩ := far HWL.out hpa)
        | (go_at_call 18; (with_reducible refine HDB.out.mono ?_); rintro e wb ⟨s, x1, n1, k1, x2, n2, k2, rfl, HTB, HGB⟩; have hpb := HTB.out.below; obtain ⟨q0, q1, q2⟩ := HK.out _ hpb; obtain ⟨u0, u1, u2, u3⟩ := far HWL.out hpb; have HBB := Lib.hid (HZB.out.grown HGB.out hne1))
        | (go_at_call 18; (with_reducible refine HDC.out.mono ?_); rintro e wc ⟨s, x1, n1, k1, x2, n2, k2, rfl, HTC, HGC⟩; have hpc := HTC.out.below; obtain ⟨q0, q1, q2⟩ := HK.out _ hpc; obtain ⟨u0, u1, u2, u3⟩ := far HWL.out hpc; have HC1 := Lib.hid (HZC.out.1.grown HGC.out hne1); have HC2 := Lib.hid (HZC.out.2.grown HGC.out hne2))
        | (go_at_call 33; (with_reducible refine (told_form HTA.out HQ.out HL1.out HL2.out (Below.refl _ _)).mono ?_); rintro e w4 ⟨t, y1, m1, j1, y2, m2, j2, rfl, H2, HG4⟩; have hp4 := H2.out.below; obtain ⟨r0, r1, r2⟩ := HK.out _ hp4; obtain ⟨o0, o1, o2, o3⟩ := far HWL.out hp4; have hf1 := H2.out.end0a; have hf2 := H2.out.end0b; dsimp only [Go.Proofs.YtomoemgoglghlaaGreatDoor.set3] at hf1 hf2; obtain ⟨WA, hWA, hf3⟩ := hf1.split; obtain ⟨WB, hWB, hf4⟩ := hf2.split; have HF1 := Lib.hid hf3; have HF2 := Lib.hid hf4; have HWA := Lib.hid hWA; have HWB := Lib.hid hWB; clear hf1 hf2 hf3 hf4 hWA hWB)
        | (go_at_call 33; (with_reducible refine (told_form HTA.out HQ.out HL1.out HL2.out ((Below.refl wa.heap.size wa).alloc (Nat.le_refl _) (.cells #[.bool false, .slice none 0 0, .slice none 0 0] 27))).mono ?_); rintro e w4 ⟨t, y1, m1, j1, y2, m2, j2, rfl, H2, HG4⟩; have hp4 := H2.out.below; obtain ⟨r0, r1, r2⟩ := HK.out _ hp4; obtain ⟨o0, o1, o2, o3⟩ := far HWL.out hp4; have HX1 := Lib.hid (Blank.kept (heap_alloc_new wa _) HG4.out); have hf1 := (H2.out.end1a HX1.out HTA.out.lt); have hf2 := (H2.out.end1b HX1.out HTA.out.lt); dsimp only [Go.Proofs.YtomoemgoglghlaaGreatDoor.set3] at hf1 hf2; obtain ⟨WA, hWA, hf3⟩ := hf1.split; obtain ⟨WB, hWB, hf4⟩ := hf2.split; have HF1 := Lib.hid hf3; have HF2 := Lib.hid hf4; have HWA := Lib.hid hWA; have HWB := Lib.hid hWB; clear hf1 hf2 hf3 hf4 hWA hWB; obtain ⟨g0, g1, g2, g3, g4, g5⟩ := HX1.out.cells; obtain ⟨v0, v1, v2⟩ := HX1.out.ne)
        | (go_at_call 33; (with_reducible refine (told_form HTA.out HQ.out HL1.out HL2.out (((Below.refl wa.heap.size wa).alloc (Nat.le_refl _) (.cells #[.bool false, .slice none 0 0, .slice none 0 0] 27)).alloc (by simp) (.cells #[.bool false, .slice none 0 0, .slice none 0 0] 27))).mono ?_); rintro e w4 ⟨t, y1, m1, j1, y2, m2, j2, rfl, H2, HG4⟩; have hp4 := H2.out.below; obtain ⟨r0, r1, r2⟩ := HK.out _ hp4; obtain ⟨o0, o1, o2, o3⟩ := far HWL.out hp4; have HX1 := Lib.hid (Blank.kept (Blank.kept (heap_alloc_new wa _) ((Below.refl _ _).alloc (Nat.le_refl _) _)) HG4.out); have HX2 := Lib.hid (blank_second wa HG4.out); have hf1 := (H2.out.end2 HX1.out HX2.out (Nat.ne_of_lt (Nat.lt_succ_self _)) HTA.out.lt (Nat.lt_succ_of_lt HTA.out.lt)); have hf2 := (H2.out.end2 HX2.out HX1.out (Nat.ne_of_gt (Nat.lt_succ_self _)) (Nat.lt_succ_of_lt HTA.out.lt) HTA.out.lt); dsimp only [Go.Proofs.YtomoemgoglghlaaGreatDoor.set3] at hf1 hf2; obtain ⟨WA, hWA, hf3⟩ := hf1.split; obtain ⟨WB, hWB, hf4⟩ := hf2.split; have HF1 := Lib.hid hf3; have HF2 := Lib.hid hf4; have HWA := Lib.hid hWA; have HWB := Lib.hid hWB; clear hf1 hf2 hf3 hf4 hWA hWB; obtain ⟨g0, g1, g2, g3, g4, g5⟩ := HX1.out.cells; obtain ⟨i0, i1, i2, i3, i4, i5⟩ := HX2.out.cells)
        | (go_at_call 33; (with_reducible refine (told_form HTB.out HQ.out HL1.out HL2.out (Below.refl _ _)).mono ?_); rintro e w4 ⟨t, y1, m1, j1, y2, m2, j2, rfl, H2, HG4⟩; have hp4 := H2.out.below; obtain ⟨r0, r1, r2⟩ := HK.out _ hp4; obtain ⟨o0, o1, o2, o3⟩ := far HWL.out hp4; have HX1 := Lib.hid (HBB.out.kept HG4.out); have hf1 := (H2.out.end1a HX1.out hlt); have hf2 := (H2.out.end1b HX1.out hlt); dsimp only [Go.Proofs.YtomoemgoglghlaaGreatDoor.set3] at hf1 hf2; obtain ⟨WA, hWA, hf3⟩ := hf1.split; obtain ⟨WB, hWB, hf4⟩ := hf2.split; have HF1 := Lib.hid hf3; have HF2 := Lib.hid hf4; have HWA := Lib.hid hWA; have HWB := Lib.hid hWB; clear hf1 hf2 hf3 hf4 hWA hWB; obtain ⟨g0, g1, g2, g3, g4, g5⟩ := HX1.out.cells; obtain ⟨v0, v1, v2⟩ := HX1.out.ne)
        | (go_at_call 33; (with_reducible refine (told_form HTB.out HQ.out HL1.out HL2.out ((Below.refl wb.heap.size wb).alloc (Nat.le_refl _) (.cells #[.bool false, .slice none 0 0, .slice none 0 0] 27))).mono ?_); rintro e w4 ⟨t, y1, m1, j1, y2, m2, j2, rfl, H2, HG4⟩; have hp4 := H2.out.below; obtain ⟨r0, r1, r2⟩ := HK.out _ hp4; obtain ⟨o0, o1, o2, o3⟩ := far HWL.out hp4; have HX2 := Lib.hid (Blank.kept (heap_alloc_new wb _) HG4.out); have HX1 := Lib.hid ((HBB.out.kept ((Below.refl _ _).alloc (Nat.le_refl _) _)).kept HG4.out); have hgh : w1.heap.size ≠ wb.heap.size := Nat.ne_of_lt (Array.getElem?_eq_some_iff.1 HBB.out).1; have hhg := Ne.symm hgh; have hf1 := (H2.out.end2 HX1.out HX2.out hgh hlt HTB.out.lt); have hf2 := (H2.out.end2 HX2.out HX1.out hhg HTB.out.lt hlt); dsimp only [Go.Proofs.YtomoemgoglghlaaGreatDoor.set3] at hf1 hf2; obtain ⟨WA, hWA, hf3⟩ := hf1.split; obtain ⟨WB, hWB, hf4⟩ := hf2.split; have HF1 := Lib.hid hf3; have HF2 := Lib.hid hf4; have HWA := Lib.hid hWA; have HWB := Lib.hid hWB; clear hf1 hf2 hf3 hf4 hWA hWB; obtain ⟨g0, g1, g2, g3, g4, g5⟩ := HX1.out.cells; obtain ⟨i0, i1, i2, i3, i4, i5⟩ := HX2.out.cells)
        | (go_at_call 33; (with_reducible refine (told_form HTC.out HQ.out HL1.out HL2.out (Below.refl _ _)).mono ?_); rintro e w4 ⟨t, y1, m1, j1, y2, m2, j2, rfl, H2, HG4⟩; have hp4 := H2.out.below; obtain ⟨r0, r1, r2⟩ := HK.out _ hp4; obtain ⟨o0, o1, o2, o3⟩ := far HWL.out hp4; have HX1 := Lib.hid (HC1.out.kept HG4.out); have HX2 := Lib.hid (HC2.out.kept HG4.out); have hf1 := (H2.out.end2 HX1.out HX2.out HE1.out hlt hgt2); have hf2 := (H2.out.end2 HX2.out HX1.out (Ne.symm HE1.out) hgt2 hlt); dsimp only [Go.Proofs.YtomoemgoglghlaaGreatDoor.set3] at hf1 hf2; obtain ⟨WA, hWA, hf3⟩ := hf1.split; obtain ⟨WB, hWB, hf4⟩ := hf2.split; have HF1 := Lib.hid hf3; have HF2 := Lib.hid hf4; have HWA := Lib.hid hWA; have HWB := Lib.hid hWB; clear hf1 hf2 hf3 hf4 hWA hWB; obtain ⟨g0, g1, g2, g3, g4, g5⟩ := HX1.out.cells; obtain ⟨i0, i1, i2, i3, i4, i5⟩ := HX2.out.cells))
    all_goals
      refine OnlyEx.mk' ?_
      simp only [HWA.out, HWB.out]
      first
        | (with_reducible refine ⟨_, ?_, HF1.out⟩; simp only [puts, Act.put, List.setIfInBounds_toArray, List.set_cons_zero, List.set_cons_succ]; done)
        | (with_reducible refine ⟨_, ?_, HF2.out⟩; simp only [puts, Act.put, List.setIfInBounds_toArray, List.set_cons_zero, List.set_cons_succ]; done)
  case rest =>
    rintro ⟨g, k, ⟨s, ⟨x1, n1, k1⟩, ⟨x2, n2, k2⟩⟩, ⟨t, ⟨y1, m1, j1⟩, ⟨y2, m2, j2⟩⟩⟩ w5 hF
    obtain ⟨hx, hy, hT⟩ := hF
    unfold LiesR at hx hy
    dsimp only at hx hy hT
    have HFI := Lib.hid (told_fits hT HM.out HS.out)
    have HBL := Lib.hid (HB.out.trans (hT.below.mono HB.out.size))
    have HT := Lib.hid hT
    have HKX := Lib.hid (keep3 hx)
    have HKY := Lib.hid (keep3 hy)
    obtain ⟨g0, g1, g2, _⟩ := HKX.out w5 (Below.refl _ _)
    obtain ⟨i0, i1, i2, _⟩ := HKY.out w5 (Below.refl _ _)
    clear hx hy hT HDA HDB HDC HZB HZC HK HQ p0 p1 p2 hlt hne1 hne2 hgt2 HE1 HB HL1 HL2 HM
    simp only [puts, Act.put, List.setIfInBounds_toArray, List.set_cons_zero, List.set_cons_succ]
    obtain ⟨o, ho⟩ : ∃ o, ovQ m q = o := ⟨_, rfl⟩
    rw [ho] at HFI
    have HO := Lib.hid ho
    clear ho
    cases o
    case true =>
      have HOV := Lib.hid (fun W (h : Below w5.heap.size w5 W) => over_any W W0.heap.size m true (by have := HT.out.bench.kept h; rwa [HO.out] at this))
      have HSA := Lib.hid (told_zero HT.out HO.out)
      clear HO HT
      go_wp2_with fail
      refine (HFI.out _).mono ?_
      rintro e w6 ⟨rfl, hb6⟩
      obtain ⟨g0, g1, g2, _⟩ := HKX.out w6 hb6
      have HV6 := Lib.hid (HOV.out w6 hb6)
      have HB6 := Lib.hid (HBL.out.trans (hb6.mono HBL.out.size))
      clear hb6 HOV HKX HKY HFI HBL
      go_wp2_with fail
      refine HV6.out.mono ?_
      rintro e w7 ⟨rfl, rfl⟩
      go_wp2_with fail
      refine (HSA.out _).mono ?_
      rintro e w8 ⟨rfl, hb8⟩
      have HB8 := Lib.hid (HB6.out.trans (hb8.mono HB6.out.size))
      clear hb8 HSA
      go_wp2_with fail
      go_ret
      exact ⟨rfl, HB8.out⟩
    case false =>
      have HOV := Lib.hid (fun W (h : Below w5.heap.size w5 W) => over_any W W0.heap.size m false (by have := HT.out.bench.kept h; rwa [HO.out] at this))
      have HSA := Lib.hid (told_same HT.out HO.out HS.out)
      clear HO HT
      go_wp2_with fail
      refine (HFI.out _).mono ?_
      rintro e w6 ⟨rfl, hb6⟩
      obtain ⟨g0, g1, g2, _⟩ := HKX.out w6 hb6
      obtain ⟨i0, i1, i2, _⟩ := HKY.out w6 hb6
      have HV6 := Lib.hid (HOV.out w6 hb6)
      have HSB := Lib.hid (HSA.out w6 hb6)
      have HB6 := Lib.hid (HBL.out.trans (hb6.mono HBL.out.size))
      clear hb6 HOV HKX HKY HFI HBL HSA
      go_wp2_with fail
      refine HV6.out.mono ?_
      rintro e w7 ⟨rfl, rfl⟩
      go_wp2_with fail
      refine HSB.out.mono ?_
      rintro e w8 ⟨rfl, hb8⟩
      have HB8 := Lib.hid (HB6.out.trans (hb8.mono HB6.out.size))
      clear hb8 HSB
      go_wp2_with fail
      go_ret
      exact ⟨rfl, HB8.out⟩
end Go.Proofs.YtomoemgoglghlaaGreatDoor
