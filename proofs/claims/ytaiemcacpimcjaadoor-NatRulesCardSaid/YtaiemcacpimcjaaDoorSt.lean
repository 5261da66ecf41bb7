/-
  A bench with room enough, and numbers: what its calls give, said of one state.
-/
import Derived.Test.YtaiemcacpimcjaaDoorGcd
import Derived.Test.YtaiemcacpimcjaaDoorDigDiv
import Derived.Test.YtaiemcacpimcjaaDoorDigAdd
set_option linter.unusedVariables false
set_option linter.unusedSimpArgs false
namespace Go.Proofs.YtaiemcacpimcjaaDoor
open Go.RowKit Rep

theorem remN_le (n m : Nat) : remN n m ≤ n := by
  unfold remN
  split
  · omega
  · exact Nat.mod_le _ _

/-- Where limbs lie: address, room, limbs. -/
abbrev Num := Option Addr × Nat × List Nat
/-- A bench that isn't over, in memory that came behind 'base', and numbers. -/
structure StB (b m : Nat) (base W : World) (l : List Num) : Prop where
  bench : Bench W b m false
  below : Below base.heap.size base W
  ge : base.heap.size ≤ b
  tab : Tab W
  max : m ≤ maxLen
  nums : ∀ t ∈ l, NumIn W t.1 t.2.1 t.2.2 ∧ t.2.2.length ≤ 100000

theorem StB.num {b m : Nat} {base W : World} {l : List Num} (h : StB b m base W l) {a : Option Addr} {c : Nat} {xs : List Nat} (hm : (a, c, xs) ∈ l) : NumIn W a c xs := (h.nums _ hm).1
theorem StB.len {b m : Nat} {base W : World} {l : List Num} (h : StB b m base W l) {a : Option Addr} {c : Nat} {xs : List Nat} (hm : (a, c, xs) ∈ l) : xs.length ≤ 100000 := (h.nums _ hm).2
theorem StB.grown {b m : Nat} {base W W' : World} {l : List Num} (h : StB b m base W l) (hb : Bench W' b m false) (hg : W.grownBy W' (some b)) : StB b m base W' l :=
  ⟨hb, h.below.grown hg h.below.size (fun k hk => by cases hk; exact h.ge), h.ge, h.tab.bench h.bench hg, h.max, fun t ht => ⟨(h.nums t ht).1.bench h.bench hg, (h.nums t ht).2⟩⟩
theorem StB.kept {b m : Nat} {base W W' : World} {l : List Num} (h : StB b m base W l) (hb : Below W.heap.size W W') : StB b m base W' l :=
  ⟨h.bench.kept hb, h.below.trans (hb.mono h.below.size), h.ge, h.tab.kept hb, h.max, fun t ht => ⟨(h.nums t ht).1.kept hb, (h.nums t ht).2⟩⟩
theorem StB.cons {b m : Nat} {base W : World} {l : List Num} (h : StB b m base W l) {a : Option Addr} {c : Nat} {xs : List Nat} (hx : NumIn W a c xs) (hl : xs.length ≤ 100000) : StB b m base W ((a, c, xs) :: l) :=
  ⟨h.bench, h.below, h.ge, h.tab, h.max, fun t ht => by
    rcases List.mem_cons.1 ht with rfl | ht
    · exact ⟨hx, hl⟩
    · exact h.nums t ht⟩
theorem StB.out {b m n : Nat} {base W W' : World} {l : List Num} {e : Ending} (h : StB b m base W l) (hg : GivesOut b m false n W e W') (hn : (L n).length ≤ m) (hl : (L n).length ≤ 100000) :
    ∃ a c, e = .returned (.slice a (L n).length c) ∧ Hid (StB b m base W' ((a, c, L n) :: l)) := by
  obtain ⟨a, c, rfl, hat, hb, hgr⟩ := hg
  have ho : outO m false n = false := by simp [outO]; omega
  have hN : outN m false n = n := by unfold outN; rw [ho]; rfl
  rw [ho] at hb
  rw [hN] at hat ⊢
  exact ⟨a, c, rfl, Lib.hid ((h.grown hb hgr).cons (hat.inn (by omega)) hl)⟩

section
variable {b m n k : Nat} {base W : World} {l : List Num} {ax ay : Option Addr} {cx cy : Nat} {xs ys : List Nat}

theorem StB.add (h : StB b m base W l) (hx : (ax, cx, xs) ∈ l) (hy : (ay, cy, ys) ∈ l) (hn : V xs = n) (hk : V ys = k) {s : Nat} (hs : n + k = s) (hf : (L s).length ≤ m) (hl : (L s).length ≤ 100000) :
    Calls Tryd.prog 14 #[.pointer (some ⟨b, 0, none⟩), .slice ax xs.length cx, .slice ay ys.length cy] W fun e W' => ∃ a c, e = .returned (.slice a (L s).length c) ∧ Hid (StB b m base W' ((a, c, L s) :: l)) := by
  subst hn hk hs
  exact (Add_any b m ax ay xs ys cx cy W false h.bench (h.num hx) (h.num hy)).mono fun e W' hg => h.out hg hf hl
theorem StB.sub (h : StB b m base W l) (hx : (ax, cx, xs) ∈ l) (hy : (ay, cy, ys) ∈ l) (hn : V xs = n) (hk : V ys = k) {s : Nat} (hs : n - k = s) (hf : (L s).length ≤ m) (hl : (L s).length ≤ 100000) :
    Calls Tryd.prog 16 #[.pointer (some ⟨b, 0, none⟩), .slice ax xs.length cx, .slice ay ys.length cy] W fun e W' => ∃ a c, e = .returned (.slice a (L s).length c) ∧ Hid (StB b m base W' ((a, c, L s) :: l)) := by
  subst hn hk hs
  exact (Sub_any b m ax ay xs ys cx cy W false h.bench (h.num hx) (h.num hy)).mono fun e W' hg => h.out hg hf hl
theorem StB.mul (h : StB b m base W l) (hx : (ax, cx, xs) ∈ l) (hy : (ay, cy, ys) ∈ l) (hn : V xs = n) (hk : V ys = k) {s : Nat} (hs : n * k = s) (hf : (L s).length ≤ m) (hl : (L s).length ≤ 100000) :
    Calls Tryd.prog 18 #[.pointer (some ⟨b, 0, none⟩), .slice ax xs.length cx, .slice ay ys.length cy] W fun e W' => ∃ a c, e = .returned (.slice a (L s).length c) ∧ Hid (StB b m base W' ((a, c, L s) :: l)) := by
  subst hn hk hs
  exact (Mul_any b m ax ay xs ys cx cy W false h.bench h.max (h.num hx) (h.num hy)).mono fun e W' hg => h.out hg hf hl
theorem StB.gcd (h : StB b m base W l) (hx : (ax, cx, xs) ∈ l) (hy : (ay, cy, ys) ∈ l) (hn : V xs = n) (hk : V ys = k) {s : Nat} (hs : Nat.gcd n k = s) (hf : (L s).length ≤ m) (hl : (L s).length ≤ 100000) :
    Calls Tryd.prog 20 #[.pointer (some ⟨b, 0, none⟩), .slice ax xs.length cx, .slice ay ys.length cy] W fun e W' => ∃ a c, e = .returned (.slice a (L s).length c) ∧ Hid (StB b m base W' ((a, c, L s) :: l)) := by
  subst hn hk hs
  exact (Gcd_any b m ax ay xs ys cx cy W false h.bench (h.num hx) (h.num hy) h.tab (by have := h.len hx; omega) (by have := h.len hy; omega)).mono fun e W' hg => h.out hg hf hl
theorem StB.div (h : StB b m base W l) (hx : (ax, cx, xs) ∈ l) (hy : (ay, cy, ys) ∈ l) (hn : V xs = n) (hk : V ys = k) {q r : Nat} (hq : n / k = q) (hr : remN n k = r) (hf : (L n).length ≤ m) (hl : (L n).length ≤ 100000) :
    Calls Tryd.prog 22 #[.pointer (some ⟨b, 0, none⟩), .slice ax xs.length cx, .slice ay ys.length cy] W fun e W' => ∃ a c a2 c2, e = .returned (.tuple #[.slice a (L q).length c, .slice a2 (L r).length c2]) ∧
      Hid (StB b m base W' ((a, c, L q) :: (a2, c2, L r) :: l)) := by
  subst hn hk hq hr
  refine (Div_any b m ax ay xs ys cx cy W false h.bench (h.num hx) (h.num hy) (by have := h.len hx; omega)).mono ?_
  rintro e W' ⟨a1, c1, a2, c2, rfl, n1, n2, hb, hg⟩
  have l1 : (L (V xs / V ys)).length ≤ (L (V xs)).length := rep_len_mono (by omega) (Nat.div_le_self _ _)
  have l2 : (L (remN (V xs) (V ys))).length ≤ (L (V xs)).length := rep_len_mono (by omega) (remN_le _ _)
  have hd : divO m false (V xs / V ys) (remN (V xs) (V ys)) = false := by simp [divO]; omega
  rw [hd] at hb
  simp only [hd, Bool.false_eq_true, if_false] at n1 n2 ⊢
  exact ⟨a1, c1, a2, c2, rfl, Lib.hid (((h.grown hb hg).cons (n2.inn (by omega)) (by omega)).cons (n1.inn (by omega)) (by omega))⟩
theorem StB.same (h : StB b m base W l) (hx : (ax, cx, L n) ∈ l) (hy : (ay, cy, L k) ∈ l) (hnk : n = k) :
    Calls Tryd.prog 32 #[.slice ax (L n).length cx, .slice ay (L k).length cy] W fun e W' => e = .returned (.bool true) ∧ Hid (StB b m base W' l) := by
  subst hnk
  refine (Same_any ax ay cx cy (L n) (L n) W (h.num hx).reads (h.num hy).reads (by have := h.len hx; omega)).mono ?_
  rintro e W' ⟨rfl, nd, rfl⟩
  exact ⟨by simp, Lib.hid (h.kept ⟨rfl, rfl, rfl, Nat.le_refl _, fun _ _ => rfl⟩)⟩
theorem StB.of (h : StB b m base W l) (hx : (ax, cx, xs) ∈ l) (hn : V xs = n) :
    Calls Tryd.prog 9 #[.slice ax xs.length cx] W fun e W' => ∃ a c, e = .returned (.slice a (D n).length c) ∧ Hid (StB b m base W' l ∧ DAt W' a c n) := by
  subst hn
  refine (OfD_any ax xs cx W (h.num hx).lim (h.num hx).reads (by have := h.len hx; omega)).mono ?_
  rintro e W' ⟨a, c, rfl, hd, hb, _⟩
  exact ⟨a, c, rfl, Lib.hid ⟨h.kept hb, hd⟩⟩
theorem StB.over (h : StB b m base W l) : Calls Tryd.prog 12 #[.pointer (some ⟨b, 0, none⟩)] W fun e W' => e = .returned (.bool false) ∧ W = W' :=
  (over_any W b m false h.bench).mono fun e W' hg => hg
theorem StB.cmp (h : StB b m base W l) (hx : (ax, cx, xs) ∈ l) (hy : (ay, cy, ys) ∈ l) (hn : V xs = n) (hk : V ys = k) :
    Calls Tryd.prog 25 #[.slice ax xs.length cx, .slice ay ys.length cy] W fun e W' => e = .returned (.int .i64 (cmpI n k)) ∧ Hid (StB b m base W' l) := by
  subst hn hk
  refine (Cmp_any ax ay xs ys cx cy W (h.num hx).lim (h.num hy).lim (h.num hx).reads (h.num hy).reads (by have := h.len hx; omega) (h.num hx).le (h.num hx).cap (h.num hy).le (h.num hy).cap).mono ?_
  rintro e W' ⟨rfl, hb⟩
  exact ⟨rfl, Lib.hid (h.kept hb)⟩
theorem StB.zero (h : StB b m base W l) : StB b m base W ((none, 0, []) :: l) := h.cons ((NumAt.zero W).inn (by simp [L_zero])) (by simp)
end

theorem L_add {n k a b : Nat} (h1 : (L n).length ≤ a) (h2 : (L k).length ≤ b) : (L (n + k)).length ≤ max a b + 1 := by
  rw [L_len] at *
  have p1 : 4294967296 ^ a ≤ 4294967296 ^ max a b := Nat.pow_le_pow_right (by omega) (by omega)
  have p2 : 4294967296 ^ b ≤ 4294967296 ^ max a b := Nat.pow_le_pow_right (by omega) (by omega)
  rw [Nat.pow_succ]
  omega
theorem L_mul {n k a b : Nat} (h1 : (L n).length ≤ a) (h2 : (L k).length ≤ b) : (L (n * k)).length ≤ a + b := by
  rw [L_len] at *
  rw [Nat.pow_add]
  exact Nat.mul_lt_mul'' h1 h2
theorem L_le {n k a : Nat} (h1 : (L n).length ≤ a) (h : k ≤ n) : (L k).length ≤ a := Nat.le_trans (rep_len_mono (by omega) h) h1
theorem L_gcd {n k a b : Nat} (h1 : (L n).length ≤ a) (h2 : (L k).length ≤ b) : (L (Nat.gcd n k)).length ≤ max a b := by
  rcases Nat.eq_zero_or_pos n with h | h
  · subst h; rw [Nat.gcd_zero_left]; omega
  · have := L_le h1 (Nat.le_of_dvd h (Nat.gcd_dvd_left n k)); omega
theorem V_len {xs : List Nat} {a : Nat} (h : Lim xs) (hl : xs.length ≤ a) : (L (V xs)).length ≤ a := Nat.le_trans (cutAt_len xs h) hl
end Go.Proofs.YtaiemcacpimcjaaDoor
