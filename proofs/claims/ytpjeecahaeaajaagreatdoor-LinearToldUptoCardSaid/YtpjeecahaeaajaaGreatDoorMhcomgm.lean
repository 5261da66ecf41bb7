/- By program out of: RatMath, Rep, MulMath, LnPure, TmPure. -/
namespace Go.Proofs.YtpjeecahaeaajaaGreatDoor
def ngQ (q : Rat) : Bool := decide (q.num < 0)
def mgQ (q : Rat) : Nat := q.num.natAbs
def sgn (s : Bool) (n : Nat) : Int := if s = true then -(n : Int) else n
def mkQ (s : Bool) (n d : Nat) : Rat := mkRat (sgn s n) d
theorem sgn_abs (s : Bool) (n : Nat) : (sgn s n).natAbs = n := by unfold sgn; split <;> simp
theorem sgn_neg (s : Bool) (n : Nat) : decide (sgn s n < 0) = if n = 0 then false else s := by
  unfold sgn
  cases s <;> by_cases h : n = 0 <;> simp [h] <;> omega
theorem sgn_ng (q : Rat) : sgn (ngQ q) (mgQ q) = q.num := by
  unfold sgn ngQ mgQ
  by_cases h : q.num < 0
  · simp [h]; omega
  · simp [h]; omega
theorem copr (q : Rat) : Nat.gcd (mgQ q) q.den = 1 := q.reduced
theorem den_pos (q : Rat) : 0 < q.den := Nat.pos_of_ne_zero q.den_nz
theorem mkQ_eq (s : Bool) (n : Nat) {d : Nat} (hd : 0 < d) : mkQ s n d = Rat.normalize (sgn s n) d (by omega) := (Rat.normalize_eq_mkRat (by omega)).symm
theorem mkQ_mg (s : Bool) (n : Nat) {d : Nat} (hd : 0 < d) : mgQ (mkQ s n d) = n / Nat.gcd n d := by
  rw [mkQ_eq s n hd, Rat.normalize_eq]
  simp only [mgQ, sgn_abs]
  unfold sgn
  split
  · have hg : ((Nat.gcd n d : Nat) : Int) ∣ (n : Int) := Int.natCast_dvd_natCast.2 (Nat.gcd_dvd_left n d)
    rw [Int.neg_ediv_of_dvd hg, Int.natAbs_neg]
    exact congrArg Int.natAbs (Int.natCast_ediv n _).symm
  · exact congrArg Int.natAbs (Int.natCast_ediv n _).symm
theorem mkQ_den (s : Bool) (n : Nat) {d : Nat} (hd : 0 < d) : (mkQ s n d).den = d / Nat.gcd n d := by
  rw [mkQ_eq s n hd, Rat.normalize_eq]
  simp only [sgn_abs]
theorem gcd_pos_r (n : Nat) {d : Nat} (hd : 0 < d) : 0 < Nat.gcd n d := Nat.gcd_pos_of_pos_right n hd
theorem mkQ_ng (s : Bool) (n : Nat) {d : Nat} (hd : 0 < d) : ngQ (mkQ s n d) = if n = 0 then false else s := by
  have hg := gcd_pos_r n hd
  have h1 : n = Nat.gcd n d * (n / Nat.gcd n d) := (Nat.mul_div_cancel' (Nat.gcd_dvd_left n d)).symm
  rw [mkQ_eq s n hd, Rat.normalize_eq]
  simp only [ngQ, sgn_abs]
  generalize Nat.gcd n d = g at *
  generalize n / g = k at *
  subst h1
  have h2 : sgn s (g * k) / ((g : Nat) : Int) = sgn s k := by
    have : sgn s (g * k) = (g : Int) * sgn s k := by unfold sgn; split <;> simp [Int.mul_neg]
    rw [this, Int.mul_ediv_cancel_left _ (by omega)]
  rw [h2, sgn_neg]
  by_cases hk : k = 0
  · simp [hk]
  · rw [if_neg hk, if_neg (Nat.ne_of_gt (Nat.mul_pos hg (by omega)))]
theorem mkQ_self (q : Rat) : mkQ (ngQ q) (mgQ q) q.den = q := by
  unfold mkQ; rw [sgn_ng]; exact Rat.mkRat_self q
theorem mkQ_cop (s : Bool) {n d : Nat} (hd : 0 < d) (h : Nat.gcd n d = 1) : mgQ (mkQ s n d) = n ∧ (mkQ s n d).den = d := by
  rw [mkQ_mg s n hd, mkQ_den s n hd, h]; simp
theorem mkQ_cross (s : Bool) {n d n' d' : Nat} (hd : 0 < d) (hd' : 0 < d') (h : n * d' = n' * d) : mkQ s n d = mkQ s n' d' := by
  unfold mkQ
  rw [Rat.mkRat_eq_iff (by omega) (by omega)]
  unfold sgn
  have h2 : (n : Int) * (d' : Int) = (n' : Int) * (d : Int) := by rw [← Int.natCast_mul, ← Int.natCast_mul, h]
  split
  · rw [Int.neg_mul, Int.neg_mul, h2]
  · exact h2
theorem mkQ_zero (s : Bool) (d : Nat) : mkQ s 0 d = 0 := by
  unfold mkQ sgn
  have : (if s = true then -((0 : Nat) : Int) else ((0 : Nat) : Int)) = 0 := by split <;> rfl
  rw [this, Rat.zero_mkRat]
theorem mg_zero {q : Rat} : mgQ q = 0 ↔ q = 0 := by
  unfold mgQ; rw [Int.natAbs_eq_zero, Rat.num_eq_zero]
theorem ng_zero : ngQ 0 = false := rfl
theorem mg_of_zero : mgQ 0 = 0 := rfl
theorem q_ext {p q : Rat} (h1 : ngQ p = ngQ q) (h2 : mgQ p = mgQ q) (h3 : p.den = q.den) : p = q := by
  rw [← mkQ_self p, ← mkQ_self q, h1, h2, h3]
def sumS (s : Bool) (a : Nat) (t : Bool) (b : Nat) : Bool := if s = t then s else if a < b then t else s
def sumN (s : Bool) (a : Nat) (t : Bool) (b : Nat) : Nat := if s = t then a + b else if a < b then b - a else a - b
theorem sum_sgn (s : Bool) (a : Nat) (t : Bool) (b : Nat) : sgn (sumS s a t b) (sumN s a t b) = sgn s a + sgn t b := by
  unfold sumS sumN sgn
  cases s <;> cases t
  · simp
  · by_cases h : a < b <;> simp [h] <;> omega
  · by_cases h : a < b <;> simp [h] <;> omega
  · simp; omega
theorem sumN_mul (g : Nat) (hg : 0 < g) (s : Bool) (a : Nat) (t : Bool) (b : Nat) : sumN s (g * a) t (g * b) = g * sumN s a t b ∧ sumS s (g * a) t (g * b) = sumS s a t b := by
  unfold sumN sumS
  by_cases h : s = t
  · simp [h, Nat.mul_add]
  · have : (g * a < g * b) ↔ a < b := Nat.mul_lt_mul_left hg
    simp only [h, if_false, this]
    refine ⟨?_, trivial⟩
    split <;> rw [Nat.mul_sub]
theorem sgn_mul (s : Bool) (a b : Nat) : sgn s (a * b) = sgn s a * (b : Int) := by
  unfold sgn; split <;> simp [Int.neg_mul]
theorem mkQ_add (s t : Bool) (a b : Nat) {c d : Nat} (hc : 0 < c) (hd : 0 < d) : mkQ s a c + mkQ t b d = mkQ (sumS s (a * d) t (b * c)) (sumN s (a * d) t (b * c)) (c * d) := by
  unfold mkQ
  rw [Rat.mkRat_add_mkRat _ _ (by omega) (by omega), sum_sgn, sgn_mul, sgn_mul]
theorem sum_q (x y : Rat) : x + y = mkQ (sumS (ngQ x) (mgQ x * y.den) (ngQ y) (mgQ y * x.den)) (sumN (ngQ x) (mgQ x * y.den) (ngQ y) (mgQ y * x.den)) (x.den * y.den) := by
  have := mkQ_add (ngQ x) (ngQ y) (mgQ x) (mgQ y) (den_pos x) (den_pos y)
  rwa [mkQ_self, mkQ_self] at this
theorem sumN_gcd {s t : Bool} {a b p : Nat} (ha : Nat.gcd a p = 1) (hb : p ∣ b) : Nat.gcd (sumN s a t b) p = 1 := by
  obtain ⟨k, rfl⟩ := hb
  unfold sumN
  split
  · rw [Nat.gcd_add_mul_left_left, ha]
  · split
    · rename_i _ h
      have : p * k = a + (p * k - a) := by omega
      have h1 : Nat.gcd (p * k - a) p ∣ 1 := by
        rw [← ha]
        refine Nat.dvd_gcd ?_ (Nat.gcd_dvd_right _ _)
        have h2 : Nat.gcd (p * k - a) p ∣ p * k := Nat.dvd_mul_right_of_dvd (Nat.gcd_dvd_right _ _) k
        generalize p * k - a = z at *
        rw [this] at h2
        exact (Nat.dvd_add_left (Nat.gcd_dvd_left _ _)).1 h2
      exact Nat.dvd_one.1 h1
    · rename_i _ h
      have : a = p * k + (a - p * k) := by omega
      have h1 : Nat.gcd (a - p * k) p ∣ 1 := by
        rw [← ha]
        refine Nat.dvd_gcd ?_ (Nat.gcd_dvd_right _ _)
        rw [this]
        exact (Nat.dvd_add_right (Nat.dvd_mul_right_of_dvd (Nat.gcd_dvd_right _ _) k)).2 (by rw [Nat.add_sub_cancel_left]; exact Nat.gcd_dvd_left _ _)
      exact Nat.dvd_one.1 h1
theorem sumN_comm (s : Bool) (a : Nat) (t : Bool) (b : Nat) : sumN s a t b = sumN t b s a := by
  unfold sumN
  by_cases h : s = t
  · subst h; simp [Nat.add_comm]
  · rw [if_neg h, if_neg (Ne.symm h)]
    split <;> split <;> omega
theorem sum_parts (sx sy : Bool) {a b c d : Nat} (dx : 0 < c) (dy : 0 < d) (cx : Nat.gcd a c = 1) (cy : Nat.gcd b d = 1) {g p r : Nat} (hx : c = g * p) (hy : d = g * r) (hpr : Nat.gcd p r = 1) {N h : Nat} {s : Bool} (hN : sumN sx (a * r) sy (b * p) = N) (hs : sumS sx (a * r) sy (b * p) = s) (hh : Nat.gcd N g = h) :
    mgQ (mkQ sx a c + mkQ sy b d) = N / h ∧ (mkQ sx a c + mkQ sy b d).den = p * r * (g / h) ∧ (N / h ≠ 0 → ngQ (mkQ sx a c + mkQ sy b d) = s) := by
  rw [mkQ_add sx sy a b dx dy]
  subst hx hy
  have hg : 0 < g := Nat.pos_of_mul_pos_right dx
  have hp : 0 < p := Nat.pos_of_mul_pos_left dx
  have hr : 0 < r := Nat.pos_of_mul_pos_left dy
  rw [show a * (g * r) = g * (a * r) from Nat.mul_left_comm _ _ _, show b * (g * p) = g * (b * p) from Nat.mul_left_comm _ _ _]
  obtain ⟨e1, e2⟩ := sumN_mul g hg sx (a * r) sy (b * p)
  rw [e1, e2, hN, hs]
  have cxp : Nat.gcd a p = 1 := Nat.Coprime.coprime_mul_left_right cx
  have cyr : Nat.gcd b r = 1 := Nat.Coprime.coprime_mul_left_right cy
  have c1 : Nat.gcd N p = 1 := by
    rw [← hN]
    exact sumN_gcd (Nat.Coprime.mul_left cxp (by rw [Nat.coprime_comm]; exact hpr)) (Nat.dvd_mul_left p _)
  have c2 : Nat.gcd N r = 1 := by
    rw [← hN, sumN_comm]
    exact sumN_gcd (Nat.Coprime.mul_left cyr hpr) (Nat.dvd_mul_left r _)
  have hd1 : h ∣ N := by rw [← hh]; exact Nat.gcd_dvd_left N g
  have hd2 : h ∣ g := by rw [← hh]; exact Nat.gcd_dvd_right N g
  have h0 : 0 < h := by rw [← hh]; exact gcd_pos_r N hg
  have c3 : Nat.gcd (N / h) (g / h) = 1 := by rw [← hh]; exact Nat.gcd_div_gcd_div_gcd_of_pos_right hg
  obtain ⟨N', rfl⟩ := hd1
  obtain ⟨g', rfl⟩ := hd2
  rw [Nat.mul_div_cancel_left _ h0, Nat.mul_div_cancel_left _ h0] at c3 ⊢
  have hg' : 0 < g' := Nat.pos_of_mul_pos_left hg
  have c4 : Nat.gcd N' (p * r * g') = 1 :=
    Nat.Coprime.mul_right (Nat.Coprime.mul_right (Nat.Coprime.coprime_mul_left c1) (Nat.Coprime.coprime_mul_left c2)) c3
  have hpos : 0 < p * r * g' := Nat.mul_pos (Nat.mul_pos hp hr) hg'
  have e3 : mkQ s (h * g' * (h * N')) (h * g' * p * (h * g' * r)) = mkQ s N' (p * r * g') := by
    refine mkQ_cross s (Nat.mul_pos dx dy) hpos ?_
    ac_rfl
  rw [e3]
  obtain ⟨a1, a2⟩ := mkQ_cop s hpos c4
  exact ⟨a1, a2, fun hn => by rw [mkQ_ng s N' hpos, if_neg hn]⟩
theorem mul_q (x y : Rat) : x * y = mkQ (ngQ x != ngQ y) (mgQ x * mgQ y) (x.den * y.den) := by
  have key : ∀ (s t : Bool) (a b : Nat), sgn s a * sgn t b = sgn (s != t) (a * b) := by
    intro s t a b; unfold sgn; cases s <;> cases t <;> simp [Int.neg_mul, Int.mul_neg]
  rw [Rat.mul_def, Rat.normalize_eq_mkRat, ← sgn_ng x, ← sgn_ng y, key]
  rfl
theorem mkQ_mul (s t : Bool) (a b : Nat) (c d : Nat) : mkQ s a c * mkQ t b d = mkQ (s != t) (a * b) (c * d) := by
  have key : ∀ (s t : Bool) (a b : Nat), sgn s a * sgn t b = sgn (s != t) (a * b) := by
    intro s t a b; unfold sgn; cases s <;> cases t <;> simp [Int.neg_mul, Int.mul_neg]
  unfold mkQ
  rw [Rat.mkRat_mul_mkRat, key]
theorem mul_parts (s t : Bool) {a b c d : Nat} (hc : 0 < c) (hd : 0 < d) (h1 : Nat.gcd a c = 1) (h2 : Nat.gcd b d = 1) {g k : Nat} (hg : Nat.gcd a d = g) (hk : Nat.gcd b c = k) :
    mgQ (mkQ s a c * mkQ t b d) = a / g * (b / k) ∧ (mkQ s a c * mkQ t b d).den = c / k * (d / g) ∧ (a / g * (b / k) ≠ 0 → ngQ (mkQ s a c * mkQ t b d) = (s != t)) := by
  have g0 : 0 < g := by rw [← hg]; exact gcd_pos_r a hd
  have k0 : 0 < k := by rw [← hk]; exact gcd_pos_r b hc
  have ca : Nat.gcd (a / g) (d / g) = 1 := by rw [← hg]; exact Nat.gcd_div_gcd_div_gcd_of_pos_right hd
  have cb : Nat.gcd (b / k) (c / k) = 1 := by rw [← hk]; exact Nat.gcd_div_gcd_div_gcd_of_pos_right hc
  obtain ⟨a', rfl⟩ : g ∣ a := by rw [← hg]; exact Nat.gcd_dvd_left a d
  obtain ⟨d', rfl⟩ : g ∣ d := by rw [← hg]; exact Nat.gcd_dvd_right _ d
  obtain ⟨b', rfl⟩ : k ∣ b := by rw [← hk]; exact Nat.gcd_dvd_left b c
  obtain ⟨c', rfl⟩ : k ∣ c := by rw [← hk]; exact Nat.gcd_dvd_right _ c
  simp only [Nat.mul_div_cancel_left _ g0, Nat.mul_div_cancel_left _ k0] at ca cb ⊢
  have hd' : 0 < d' := Nat.pos_of_mul_pos_left hd
  have hc' : 0 < c' := Nat.pos_of_mul_pos_left hc
  have c1 : Nat.gcd a' c' = 1 := Nat.Coprime.coprime_mul_left (k := g) (Nat.Coprime.coprime_mul_left_right h1)
  have c2 : Nat.gcd b' d' = 1 := Nat.Coprime.coprime_mul_left (k := k) (Nat.Coprime.coprime_mul_left_right h2)
  have hpos : 0 < c' * d' := Nat.mul_pos hc' hd'
  have hcop : Nat.gcd (a' * b') (c' * d') = 1 :=
    Nat.Coprime.mul_left (Nat.Coprime.mul_right c1 ca) (Nat.Coprime.mul_right cb c2)
  have e : mkQ s (g * a') (k * c') * mkQ t (k * b') (g * d') = mkQ (s != t) (a' * b') (c' * d') := by
    rw [mkQ_mul s t]
    refine mkQ_cross _ (Nat.mul_pos hc hd) hpos ?_
    ac_rfl
  rw [e]
  obtain ⟨a1, a2⟩ := mkQ_cop (s != t) hpos hcop
  exact ⟨a1, a2, fun hn => by rw [mkQ_ng _ _ hpos, if_neg hn]⟩
theorem mkQ_neg (s : Bool) (n d : Nat) : mkQ (!s) n d = -mkQ s n d := by
  unfold mkQ
  rw [Rat.neg_mkRat]
  congr 1
  unfold sgn
  cases s <;> simp
theorem inv_q {q : Rat} (h : q ≠ 0) : mkQ (ngQ q) q.den (mgQ q) = q⁻¹ := by
  have hm : 0 < mgQ q := Nat.pos_of_ne_zero (fun e => h (mg_zero.1 e))
  have hd := den_pos q
  have h1 : q * mkQ (ngQ q) q.den (mgQ q) = 1 := by
    conv => lhs; lhs; rw [← mkQ_self q]
    rw [mkQ_mul]
    have : (ngQ q != ngQ q) = false := by simp
    rw [this, mkQ_cross false (Nat.mul_pos hd hm) (n' := 1) (d' := 1) (by omega) (by rw [Nat.mul_one, Nat.one_mul, Nat.mul_comm])]
    rfl
  have h2 : q⁻¹ * (q * mkQ (ngQ q) q.den (mgQ q)) = q⁻¹ * 1 := by rw [h1]
  rwa [← Rat.mul_assoc, Rat.inv_mul_cancel q h, Rat.one_mul, Rat.mul_one] at h2
theorem mkQ_inv (s : Bool) {n d : Nat} (hn : 0 < n) (hd : 0 < d) : mkQ s d n = (mkQ s n d)⁻¹ := by
  have h1 : mkQ s n d * mkQ s d n = 1 := by
    rw [mkQ_mul]
    have : (s != s) = false := by simp
    rw [this, mkQ_cross false (Nat.mul_pos hd hn) (n' := 1) (d' := 1) (by omega) (by rw [Nat.mul_one, Nat.one_mul, Nat.mul_comm])]
    rfl
  have h0 : mkQ s n d ≠ 0 := fun e => by rw [e, Rat.zero_mul] at h1; exact absurd h1 (by decide)
  have h2 : (mkQ s n d)⁻¹ * (mkQ s n d * mkQ s d n) = (mkQ s n d)⁻¹ * 1 := by rw [h1]
  rwa [← Rat.mul_assoc, Rat.inv_mul_cancel _ h0, Rat.one_mul, Rat.mul_one] at h2
end Go.Proofs.YtpjeecahaeaajaaGreatDoor

namespace Go.Proofs.YtpjeecahaeaajaaGreatDoor
namespace Rep
def val (b : Nat) : List Nat → Nat
  | [] => 0
  | d :: l => d + b * val b l
def repF (b : Nat) : Nat → Nat → List Nat
  | 0, _ => []
  | f + 1, n => if n = 0 then [] else (n % b) :: repF b f (n / b)
def rep (b n : Nat) : List Nat := repF b n n
def Dig (b : Nat) (l : List Nat) : Prop := ∀ d, d ∈ l → d < b
def Top (l : List Nat) : Prop := l.getLast? ≠ some 0
theorem Dig.nil (b : Nat) : Dig b [] := fun _ h => by cases h
theorem Dig.cons {b d : Nat} {l : List Nat} (h : d < b) (hl : Dig b l) : Dig b (d :: l) := fun x hx => by
  rcases List.mem_cons.1 hx with rfl | hx
  · exact h
  · exact hl x hx
theorem Dig.head {b d : Nat} {l : List Nat} (h : Dig b (d :: l)) : d < b := h d (List.mem_cons_self ..)
theorem Dig.tail {b d : Nat} {l : List Nat} (h : Dig b (d :: l)) : Dig b l := fun x hx => h x (List.mem_cons_of_mem _ hx)
theorem Dig.append {b : Nat} {l m : List Nat} (h : Dig b l) (k : Dig b m) : Dig b (l ++ m) := fun x hx => by
  rcases List.mem_append.1 hx with hx | hx
  · exact h x hx
  · exact k x hx
theorem Dig.left {b : Nat} {l m : List Nat} (h : Dig b (l ++ m)) : Dig b l := fun x hx => h x (List.mem_append_left _ hx)
theorem Dig.right {b : Nat} {l m : List Nat} (h : Dig b (l ++ m)) : Dig b m := fun x hx => h x (List.mem_append_right _ hx)
theorem Dig.take {b : Nat} {l : List Nat} (h : Dig b l) (k : Nat) : Dig b (l.take k) := fun x hx => h x (List.mem_of_mem_take hx)
theorem Dig.drop {b : Nat} {l : List Nat} (h : Dig b l) (k : Nat) : Dig b (l.drop k) := fun x hx => h x (List.mem_of_mem_drop hx)
theorem Dig.set {b : Nat} {l : List Nat} (h : Dig b l) (k v : Nat) (hv : v < b) : Dig b (l.set k v) := fun x hx => by
  rcases List.mem_or_eq_of_mem_set hx with hx | rfl
  · exact h x hx
  · exact hv
theorem Dig.get {b : Nat} {l : List Nat} (h : Dig b l) (i : Nat) (hi : i < l.length) : l[i] < b := h _ (List.getElem_mem hi)
theorem Dig.getD {b : Nat} {l : List Nat} (h : Dig b l) (i : Nat) (hb : 0 < b) : l.getD i 0 < b := by
  by_cases hi : i < l.length
  · rw [List.getD_eq_getElem?_getD, List.getElem?_eq_getElem hi]; exact h.get i hi
  · rw [List.getD_eq_getElem?_getD, List.getElem?_eq_none (by omega)]; exact hb
theorem Dig.replicate (b k d : Nat) (h : d < b) : Dig b (List.replicate k d) := fun x hx => by
  rw [List.mem_replicate] at hx; omega
theorem val_cons (b d : Nat) (l : List Nat) : val b (d :: l) = d + b * val b l := rfl
theorem val_append (b : Nat) (l m : List Nat) : val b (l ++ m) = val b l + b ^ l.length * val b m := by
  induction l with
  | nil => simp [val]
  | cons d l ih => simp only [List.cons_append, val, ih, List.length_cons, Nat.pow_succ]; rw [Nat.mul_add, ← Nat.mul_assoc, Nat.mul_comm b (b ^ l.length), Nat.add_assoc]
theorem val_zeros (b k : Nat) : val b (List.replicate k 0) = 0 := by
  induction k with
  | zero => rfl
  | succ k ih => simp [List.replicate_succ, val, ih]
theorem val_snoc (b d : Nat) (l : List Nat) : val b (l ++ [d]) = val b l + b ^ l.length * d := by
  rw [val_append]; simp [val]
theorem val_lt {b : Nat} {l : List Nat} (h : Dig b l) : val b l < b ^ l.length := by
  induction l with
  | nil => simp [val]
  | cons d l ih =>
    have h1 := h.head
    have h2 := ih h.tail
    simp only [val, List.length_cons, Nat.pow_succ]
    have h3 : b * (val b l + 1) ≤ b * b ^ l.length := Nat.mul_le_mul_left b h2
    rw [Nat.mul_add, Nat.mul_one] at h3
    rw [Nat.mul_comm (b ^ l.length) b]
    omega
theorem val_take_drop (b k : Nat) (l : List Nat) (hk : k ≤ l.length) : val b l = val b (l.take k) + b ^ k * val b (l.drop k) := by
  conv => lhs; rw [← List.take_append_drop k l]
  rw [val_append, List.length_take, Nat.min_eq_left hk]
theorem repF_le (b : Nat) (hb : 2 ≤ b) : ∀ f n, n ≤ f → val b (repF b f n) = n := by
  intro f
  induction f with
  | zero => intro n hn; obtain rfl : n = 0 := by omega
            rfl
  | succ f ih =>
    intro n hn
    simp only [repF]
    split
    · subst n; rfl
    · have h1 : n / b < n := Nat.div_lt_self (by omega) hb
      rw [val, ih (n / b) (by omega)]
      exact Nat.mod_add_div n b
theorem val_rep {b : Nat} (hb : 2 ≤ b) (n : Nat) : val b (rep b n) = n := repF_le b hb n n (Nat.le_refl _)
theorem repF_dig (b : Nat) (hb : 0 < b) : ∀ f n, Dig b (repF b f n) := by
  intro f
  induction f with
  | zero => intro n; exact Dig.nil b
  | succ f ih =>
    intro n
    simp only [repF]
    split
    · exact Dig.nil b
    · exact Dig.cons (Nat.mod_lt _ hb) (ih _)
theorem rep_dig {b : Nat} (hb : 0 < b) (n : Nat) : Dig b (rep b n) := repF_dig b hb n n
theorem Top.nil : Top [] := by simp [Top]
theorem Top.tail {d : Nat} {l : List Nat} (h : Top (d :: l)) (hl : l ≠ []) : Top l := by
  unfold Top at h ⊢
  rwa [List.getLast?_cons_of_ne_nil hl] at h
theorem top_snoc {l : List Nat} {d : Nat} : Top (l ++ [d]) ↔ d ≠ 0 := by simp [Top]
theorem val_eq_zero {b : Nat} (hb : 0 < b) {l : List Nat} (ht : Top l) (h : val b l = 0) : l = [] := by
  induction l with
  | nil => rfl
  | cons d l ih =>
    simp only [val] at h
    have hd : d = 0 := by omega
    have hm : b * val b l = 0 := by omega
    have hv : val b l = 0 := by
      rcases Nat.mul_eq_zero.1 hm with h | h
      · omega
      · exact h
    by_cases hl : l = []
    · subst hl; subst hd; simp [Top] at ht
    · exact absurd (ih (ht.tail hl) hv) hl
theorem val_inj {b : Nat} (hb : 0 < b) : ∀ {l m : List Nat}, Dig b l → Dig b m → Top l → Top m → val b l = val b m → l = m := by
  intro l
  induction l with
  | nil => intro m _ _ _ hm h; exact (val_eq_zero hb hm h.symm).symm
  | cons d l ih =>
    intro m hl hm tl tm h
    cases m with
    | nil => exact val_eq_zero hb tl h
    | cons e m =>
      simp only [val] at h
      have hd := hl.head
      have he := hm.head
      have h1 : d = e := by
        have := congrArg (· % b) h
        simpa [Nat.add_mul_mod_self_left, Nat.mod_eq_of_lt hd, Nat.mod_eq_of_lt he] using this
      subst h1
      have h2 : b * val b l = b * val b m := by omega
      have h3 : val b l = val b m := Nat.eq_of_mul_eq_mul_left hb h2
      have tl' : Top l := by
        by_cases e : l = []
        · subst e; exact Top.nil
        · exact tl.tail e
      have tm' : Top m := by
        by_cases e : m = []
        · subst e; exact Top.nil
        · exact tm.tail e
      rw [ih hl.tail hm.tail tl' tm' h3]
theorem repF_top (b : Nat) (hb : 2 ≤ b) : ∀ f n, n ≤ f → Top (repF b f n) := by
  intro f
  induction f with
  | zero => intro n _; exact Top.nil
  | succ f ih =>
    intro n hn
    simp only [repF]
    split
    · exact Top.nil
    · rename_i h0
      have h1 : n / b < n := Nat.div_lt_self (by omega) hb
      have ht := ih (n / b) (by omega)
      by_cases e : repF b f (n / b) = []
      · rw [e]
        have hv := repF_le b hb f (n / b) (by omega)
        rw [e] at hv
        simp only [val] at hv
        have := Nat.mod_add_div n b
        rw [← hv] at this
        simp [Top]
        omega
      · unfold Top at ht ⊢
        rwa [List.getLast?_cons_of_ne_nil e]
theorem rep_top {b : Nat} (hb : 2 ≤ b) (n : Nat) : Top (rep b n) := repF_top b hb n n (Nat.le_refl _)
theorem eq_rep {b : Nat} (hb : 2 ≤ b) {l : List Nat} {n : Nat} (hd : Dig b l) (ht : Top l) (hv : val b l = n) : l = rep b n :=
  val_inj (by omega) hd (rep_dig (by omega) n) ht (rep_top hb n) (by rw [hv, val_rep hb])
theorem rep_val {b : Nat} (hb : 2 ≤ b) {l : List Nat} (hd : Dig b l) (ht : Top l) : rep b (val b l) = l := (eq_rep hb hd ht rfl).symm
theorem rep_zero (b : Nat) : rep b 0 = [] := rfl
theorem rep_eq_nil {b : Nat} (hb : 2 ≤ b) {n : Nat} : rep b n = [] ↔ n = 0 := by
  constructor
  · intro h; have := val_rep hb n; rw [h] at this; exact this.symm
  · rintro rfl; rfl
theorem pow_le_val {b : Nat} {l : List Nat} (ht : Top l) (hl : l ≠ []) : b ^ (l.length - 1) ≤ val b l := by
  rcases List.eq_nil_or_concat l with rfl | ⟨m, d, rfl⟩
  · exact absurd rfl hl
  · rw [List.concat_eq_append] at ht ⊢
    rw [top_snoc] at ht
    rw [val_snoc]
    simp only [List.length_append, List.length_cons, List.length_nil, Nat.add_sub_cancel, Nat.zero_add]
    have : b ^ m.length * 1 ≤ b ^ m.length * d := Nat.mul_le_mul_left _ (by omega)
    omega
theorem rep_length_le {b : Nat} (hb : 2 ≤ b) (n k : Nat) : (rep b n).length ≤ k ↔ n < b ^ k := by
  constructor
  · intro h
    have h1 := val_lt (rep_dig (b := b) (by omega) n)
    rw [val_rep hb] at h1
    exact Nat.lt_of_lt_of_le h1 (Nat.pow_le_pow_right (by omega) h)
  · intro h
    by_cases e : rep b n = []
    · rw [e]; simp
    · have h1 := pow_le_val (b := b) (rep_top hb n) e
      rw [val_rep hb] at h1
      have h2 : b ^ ((rep b n).length - 1) < b ^ k := Nat.lt_of_le_of_lt h1 h
      have h3 : (rep b n).length - 1 < k := (Nat.pow_lt_pow_iff_right (by omega)).1 h2
      omega
def cutAt (l : List Nat) : Nat → Nat
  | 0 => 0
  | n + 1 => if l.getD n 0 = 0 then cutAt l n else n + 1
theorem cutAt_le (l : List Nat) (n : Nat) : cutAt l n ≤ n := by
  induction n with
  | zero => exact Nat.le_refl _
  | succ n ih => simp only [cutAt]; split <;> omega
def strip (l : List Nat) : List Nat := l.take (cutAt l l.length)
theorem cutAt_zero (l : List Nat) (n : Nat) : ∀ i, cutAt l n ≤ i → i < n → l.getD i 0 = 0 := by
  induction n with
  | zero => intro i _ h; omega
  | succ n ih =>
    intro i h1 h2
    simp only [cutAt] at h1
    split at h1
    · by_cases e : i = n
      · subst e; assumption
      · exact ih i h1 (by omega)
    · omega
theorem cutAt_top (l : List Nat) (n : Nat) (h : cutAt l n ≠ 0) : l.getD (cutAt l n - 1) 0 ≠ 0 := by
  induction n with
  | zero => exact absurd rfl h
  | succ n ih =>
    simp only [cutAt] at h ⊢
    split
    · rename_i e; rw [if_pos e] at h; exact ih h
    · simpa using by assumption
theorem val_take_of_zeros (b : Nat) : ∀ (l : List Nat) (k : Nat), (∀ i, k ≤ i → i < l.length → l.getD i 0 = 0) → val b (l.take k) = val b l := by
  intro l
  induction l with
  | nil => intro k _; simp
  | cons d l ih =>
    intro k h
    cases k with
    | zero =>
      have hz : val b l = 0 := by
        have := ih 0 (fun i _ hi => by have := h (i + 1) (Nat.zero_le _) (by simpa using hi); simpa using this)
        simpa [val] using this.symm
      have hd : d = 0 := by have := h 0 (Nat.le_refl _) (by simp); simpa using this
      simp [val, hz, hd]
    | succ k =>
      simp only [List.take_succ_cons, val]
      rw [ih k (fun i hi hl => by have := h (i + 1) (by omega) (by simpa using hl); simpa using this)]
theorem val_strip (b : Nat) (l : List Nat) : val b (strip l) = val b l := val_take_of_zeros b l _ (cutAt_zero l l.length)
theorem strip_top (l : List Nat) : Top (strip l) := by
  have hle := cutAt_le l l.length
  by_cases e : cutAt l l.length = 0
  · unfold strip; rw [e]; simp [Top]
  · have h := cutAt_top l l.length e
    unfold strip Top
    rw [List.getLast?_eq_getElem?, List.length_take, Nat.min_eq_left hle, List.getElem?_take, if_pos (by omega)]
    rw [List.getD_eq_getElem?_getD] at h
    intro c
    rw [c] at h
    exact h rfl
theorem strip_dig {b : Nat} {l : List Nat} (h : Dig b l) : Dig b (strip l) := h.take _
theorem strip_eq {b : Nat} (hb : 2 ≤ b) {l : List Nat} (h : Dig b l) : strip l = rep b (val b l) :=
  eq_rep hb (strip_dig h) (strip_top l) (val_strip b l)
theorem strip_length (l : List Nat) : (strip l).length = cutAt l l.length := by
  unfold strip; rw [List.length_take]; have := cutAt_le l l.length; omega
end Rep
end Go.Proofs.YtpjeecahaeaajaaGreatDoor

set_option linter.unusedVariables false
set_option linter.unusedSimpArgs false
namespace Go.Proofs.YtpjeecahaeaajaaGreatDoor
namespace Rep
theorem getD_lt {l : List Nat} {i : Nat} (h : i < l.length) : l.getD i 0 = l[i] := by
  rw [List.getD_eq_getElem?_getD, List.getElem?_eq_getElem h]; rfl
theorem getD_ge {l : List Nat} {i : Nat} (h : l.length ≤ i) : l.getD i 0 = 0 := by
  rw [List.getD_eq_getElem?_getD, List.getElem?_eq_none h]; rfl
theorem getD_set_self {l : List Nat} {i v : Nat} (h : i < l.length) : (l.set i v).getD i 0 = v := by
  rw [List.getD_eq_getElem?_getD, List.getElem?_set_self h]; rfl
theorem getD_set_ne {l : List Nat} {i j v : Nat} (h : i ≠ j) : (l.set i v).getD j 0 = l.getD j 0 := by
  rw [List.getD_eq_getElem?_getD, List.getD_eq_getElem?_getD, List.getElem?_set_ne h]
theorem val_set (b : Nat) : ∀ (l : List Nat) (k v : Nat), k < l.length → val b (l.set k v) + b ^ k * l.getD k 0 = val b l + b ^ k * v := by
  intro l
  induction l with
  | nil => intro k v h; simp at h
  | cons d l ih =>
    intro k v h
    cases k with
    | zero => simp [val]; omega
    | succ k =>
      have hi := ih k v (by simpa using h)
      simp only [List.set_cons_succ, val, List.getD_cons_succ, Nat.pow_succ]
      have e1 : b ^ k * b * l.getD k 0 = b * (b ^ k * l.getD k 0) := by rw [Nat.mul_comm (b ^ k) b, Nat.mul_assoc]
      have e2 : b ^ k * b * v = b * (b ^ k * v) := by rw [Nat.mul_comm (b ^ k) b, Nat.mul_assoc]
      rw [e1, e2, Nat.add_assoc, Nat.add_assoc, ← Nat.mul_add, ← Nat.mul_add, hi]
theorem val_take_succ (b : Nat) (l : List Nat) (k : Nat) (h : k < l.length) : val b (l.take (k + 1)) = val b (l.take k) + b ^ k * l.getD k 0 := by
  rw [List.take_succ_eq_append_getElem h, val_snoc, List.length_take, Nat.min_eq_left (by omega), getD_lt h]
theorem mul_step {b q c t x y VQ R E : Nat} (ht : t = c + (x * y + q)) (hE : VQ + c * E = R) : ∀ VQ', VQ' + E * q = VQ + E * (t % b) → VQ' + t / b * (E * b) = R + x * y * E := by
  intro VQ' h
  have h1 := Nat.mod_add_div t b
  have h2 : E * (t % b) + t / b * (E * b) = E * t := by
    rw [Nat.mul_comm (t / b), Nat.mul_assoc, ← Nat.mul_add, h1]
  have h3 : E * t = c * E + x * y * E + E * q := by
    rw [ht, Nat.mul_add, Nat.mul_add, Nat.mul_comm E c, Nat.mul_comm E (x * y)]; omega
  omega
theorem val_take_succ' (b : Nat) (l : List Nat) (k : Nat) : val b (l.take (k + 1)) = val b (l.take k) + b ^ k * l.getD k 0 := by
  by_cases h : k < l.length
  · exact val_take_succ b l k h
  · rw [List.take_of_length_le (by omega), List.take_of_length_le (by omega), getD_ge (by omega), Nat.mul_zero, Nat.add_zero]
end Rep
end Go.Proofs.YtpjeecahaeaajaaGreatDoor

set_option linter.unusedVariables false
set_option linter.unusedSimpArgs false
namespace Go.Proofs.YtpjeecahaeaajaaGreatDoor
abbrev Mo := Int × Rat
namespace Ln
def keep (m : Mo) : List Mo := if m.2 = 0 then [] else [m]
def scale (k : Rat) (ms : List Mo) : List Mo := ms.flatMap fun m => keep (m.1, k * m.2)
def below (m : Mo) : Mo → Bool := fun n => decide (n.1 < m.1)
def meet (m : Mo) (r : List Mo) : List Mo × List Mo :=
  match r with
  | [] => (keep m, [])
  | n :: r' => if n.1 = m.1 then (keep (m.1, m.2 + n.2), r') else (keep m, n :: r')
def step1 (m : Mo) (more : List Mo) : List Mo × List Mo :=
  (more.takeWhile (below m) ++ (meet m (more.dropWhile (below m))).1, (meet m (more.dropWhile (below m))).2)
def merge : List Mo → List Mo → List Mo
  | [], more => more
  | m :: ms, more => (step1 m more).1 ++ merge ms (step1 m more).2
def dot (f : Int → Rat) : List Mo → Rat
  | [] => 0
  | m :: ms => m.2 * f m.1 + dot f ms
theorem dot_app (f : Int → Rat) (l r : List Mo) : dot f (l ++ r) = dot f l + dot f r := by
  induction l with
  | nil => simp [dot, Rat.zero_add]
  | cons m ms ih => simp only [List.cons_append, dot, ih]; grind
theorem dot_keep (f : Int → Rat) (m : Mo) : dot f (keep m) = m.2 * f m.1 := by
  unfold keep
  split
  · rename_i h; rw [h]; simp [dot, Rat.zero_mul]
  · simp [dot, Rat.add_zero]
theorem dot_scale (f : Int → Rat) (k : Rat) (ms : List Mo) : dot f (scale k ms) = k * dot f ms := by
  induction ms with
  | nil => simp [scale, dot, Rat.mul_zero]
  | cons m ms ih =>
    unfold scale at ih ⊢
    rw [List.flatMap_cons, dot_app, ih, dot_keep]
    simp only [dot]; grind
theorem dot_meet (f : Int → Rat) (m : Mo) (r : List Mo) : dot f (meet m r).1 + dot f (meet m r).2 = m.2 * f m.1 + dot f r := by
  unfold meet
  split
  · simp [dot_keep, dot]
  · split
    · rename_i h; simp only [dot_keep, dot, h]; grind
    · simp only [dot_keep]
theorem take_drop (p : Mo → Bool) (l : List Mo) : l.takeWhile p ++ l.dropWhile p = l := List.takeWhile_append_dropWhile
theorem dot_step (f : Int → Rat) (m : Mo) (more : List Mo) : dot f (step1 m more).1 + dot f (step1 m more).2 = m.2 * f m.1 + dot f more := by
  have h := dot_meet f m (more.dropWhile (below m))
  have h2 := dot_app f (more.takeWhile (below m)) (more.dropWhile (below m))
  rw [take_drop] at h2
  simp only [step1, dot_app]
  grind
theorem dot_merge (f : Int → Rat) : ∀ (ms more : List Mo), dot f (merge ms more) = dot f ms + dot f more
  | [], more => by simp [merge, dot, Rat.zero_add]
  | m :: ms, more => by
    have h1 := dot_merge f ms (step1 m more).2
    have h2 := dot_step f m more
    simp only [merge, dot_app, h1, dot]
    grind
structure Fit (l : List Mo) : Prop where
  up : l.Pairwise (fun a b => a.1 < b.1)
  nz : ∀ m ∈ l, m.2 ≠ 0
theorem Fit.nil : Fit [] := ⟨List.Pairwise.nil, by simp⟩
theorem Fit.tail {m : Mo} {l : List Mo} (h : Fit (m :: l)) : Fit l := ⟨(List.pairwise_cons.1 h.up).2, fun x hx => h.nz x (List.mem_cons_of_mem _ hx)⟩
theorem Fit.head {m : Mo} {l : List Mo} (h : Fit (m :: l)) : ∀ x ∈ l, m.1 < x.1 := (List.pairwise_cons.1 h.up).1
theorem Fit.app {l r : List Mo} (h : Fit l) (k : Fit r) (hlt : ∀ x ∈ l, ∀ y ∈ r, x.1 < y.1) : Fit (l ++ r) :=
  ⟨List.pairwise_append.2 ⟨h.up, k.up, hlt⟩, fun m hm => (List.mem_append.1 hm).elim (h.nz m) (k.nz m)⟩
theorem Fit.sub {l r : List Mo} (h : Fit r) (hs : l.Sublist r) : Fit l := ⟨h.up.sublist hs, fun m hm => h.nz m (hs.subset hm)⟩
theorem keep_fit (m : Mo) : Fit (keep m) := by
  unfold keep; split
  · exact .nil
  · rename_i h; exact ⟨by simp, by simpa using h⟩
theorem keep_mem {m x : Mo} (h : x ∈ keep m) : x.1 = m.1 := by
  unfold keep at h; split at h
  · simp at h
  · simp at h; rw [h]
theorem scale_mem {k : Rat} {ms : List Mo} {x : Mo} (h : x ∈ scale k ms) : ∃ m ∈ ms, x.1 = m.1 := by
  unfold scale at h
  obtain ⟨m, hm, hx⟩ := List.mem_flatMap.1 h
  have := keep_mem hx
  exact ⟨m, hm, this⟩
theorem scale_fit (k : Rat) {ms : List Mo} (h : Fit ms) : Fit (scale k ms) := by
  induction ms with
  | nil => exact .nil
  | cons m ms ih =>
    show Fit (keep (m.1, k * m.2) ++ scale k ms)
    refine (keep_fit _).app (ih h.tail) fun x hx y hy => ?_
    obtain ⟨n, hn, e⟩ := scale_mem hy
    have := h.head n hn
    have h3 := keep_mem hx
    dsimp only at h3
    omega
theorem drop_ge {m : Mo} {l : List Mo} (h : Fit l) : ∀ x ∈ l.dropWhile (below m), m.1 ≤ x.1 := by
  induction l with
  | nil => simp
  | cons n l ih =>
    intro x hx
    rw [List.dropWhile_cons] at hx
    split at hx
    · exact ih h.tail x hx
    · rename_i hb
      have hb : m.1 ≤ n.1 := by simp [below] at hb; omega
      rcases List.mem_cons.1 hx with rfl | hx
      · exact hb
      · have := h.head x hx; omega
theorem take_lt {m : Mo} {l : List Mo} : ∀ x ∈ l.takeWhile (below m), x.1 < m.1 := by
  induction l with
  | nil => simp
  | cons n l ih =>
    intro x hx
    rw [List.takeWhile_cons] at hx
    split at hx
    · rename_i hb
      rcases List.mem_cons.1 hx with rfl | hx
      · simpa [below] using hb
      · exact ih x hx
    · simp at hx
theorem meet_1 {m : Mo} {r : List Mo} {x : Mo} (h : x ∈ (meet m r).1) : x.1 = m.1 := by
  unfold meet at h
  split at h
  · exact keep_mem h
  · split at h
    · have := keep_mem h; exact this
    · exact keep_mem h
theorem meet_fit1 (m : Mo) (r : List Mo) : Fit (meet m r).1 := by
  unfold meet
  split
  · exact keep_fit _
  · split <;> exact keep_fit _
theorem meet_sub (m : Mo) (r : List Mo) : (meet m r).2.Sublist r := by
  unfold meet
  split
  · exact List.Sublist.refl _
  · split
    · exact List.sublist_cons_self _ _
    · exact List.Sublist.refl _
theorem meet_gt {m : Mo} {r : List Mo} (h : Fit r) (hg : ∀ x ∈ r, m.1 ≤ x.1) : ∀ x ∈ (meet m r).2, m.1 < x.1 := by
  unfold meet
  split
  · simp
  · rename_i n r'
    split
    · rename_i e
      intro x hx
      have := h.head x hx; omega
    · rename_i e
      intro x hx
      have h1 := hg n (by simp)
      rcases List.mem_cons.1 hx with rfl | hx
      · omega
      · have := h.head x hx; omega
theorem step_sub (m : Mo) (more : List Mo) : (step1 m more).2.Sublist more := (meet_sub _ _).trans (List.dropWhile_sublist _)
theorem step_gt {m : Mo} {more : List Mo} (h : Fit more) : ∀ x ∈ (step1 m more).2, m.1 < x.1 := meet_gt (h.sub (List.dropWhile_sublist _)) (drop_ge h)
theorem step_fit {m : Mo} {more : List Mo} (h : Fit more) : Fit (step1 m more).1 :=
  (h.sub (List.takeWhile_sublist _)).app (meet_fit1 _ _) fun x hx y hy => by rw [meet_1 hy]; exact take_lt x hx
theorem step_le {m : Mo} {more : List Mo} : ∀ x ∈ (step1 m more).1, x.1 ≤ m.1 := by
  intro x hx
  rcases List.mem_append.1 hx with hx | hx
  · exact Int.le_of_lt (take_lt x hx)
  · rw [meet_1 hx]; exact Int.le_refl _
theorem step_from {m : Mo} {more : List Mo} : ∀ x ∈ (step1 m more).1, x.1 = m.1 ∨ ∃ y ∈ more, x.1 = y.1 := by
  intro x hx
  rcases List.mem_append.1 hx with hx | hx
  · exact .inr ⟨x, (List.takeWhile_sublist _).subset hx, rfl⟩
  · exact .inl (meet_1 hx)
theorem merge_from : ∀ {ms more : List Mo} {x : Mo}, x ∈ merge ms more → (∃ y ∈ ms, x.1 = y.1) ∨ (∃ y ∈ more, x.1 = y.1)
  | [], more, x, h => .inr ⟨x, h, rfl⟩
  | m :: ms, more, x, h => by
    rcases List.mem_append.1 h with h | h
    · rcases step_from x h with e | h
      · exact .inl ⟨m, by simp, e⟩
      · exact .inr h
    · rcases merge_from h with ⟨y, hy, e⟩ | ⟨y, hy, e⟩
      · exact .inl ⟨y, by simp [hy], e⟩
      · exact .inr ⟨y, (step_sub m more).subset hy, e⟩
theorem merge_fit : ∀ {ms more : List Mo}, Fit ms → Fit more → Fit (merge ms more)
  | [], more, _, h => h
  | m :: ms, more, h1, h2 => by
    refine (step_fit h2).app (merge_fit h1.tail (h2.sub (step_sub m more))) fun x hx y hy => ?_
    have hx := step_le x hx
    rcases merge_from hy with ⟨z, hz, e⟩ | ⟨z, hz, e⟩
    · have := h1.head z hz; omega
    · have := step_gt h2 z hz; omega
def coef (l : List Mo) (v : Int) : Rat :=
  match l with
  | [] => 0
  | m :: ms => if m.1 = v then m.2 else coef ms v
def one (v : Int) : Int → Rat := fun u => if u = v then 1 else 0
theorem dot_one_none {v : Int} : ∀ {l : List Mo}, (∀ m ∈ l, m.1 ≠ v) → dot (one v) l = 0
  | [], _ => rfl
  | m :: ms, h => by
    have h1 := dot_one_none (l := ms) (fun x hx => h x (List.mem_cons_of_mem _ hx))
    have h2 : one v m.1 = 0 := if_neg (h m (by simp))
    simp only [dot, h1, h2]; grind
theorem coef_dot {l : List Mo} (h : Fit l) (v : Int) : coef l v = dot (one v) l := by
  induction l with
  | nil => rfl
  | cons m ms ih =>
    simp only [coef, dot]
    split
    · rename_i e
      rw [dot_one_none (fun x hx => by have := h.head x hx; omega)]
      simp [one, e]; grind
    · rename_i e
      rw [ih h.tail]
      simp [one, e]; grind
theorem fit_ext : ∀ {l r : List Mo}, Fit l → Fit r → (∀ v, coef l v = coef r v) → l = r
  | [], [], _, _, _ => rfl
  | [], n :: r, _, k, h => by
    have := h n.1
    simp [coef] at this
    exact absurd this.symm (k.nz n (by simp))
  | m :: l, [], k, _, h => by
    have := h m.1
    simp [coef] at this
    exact absurd this (k.nz m (by simp))
  | m :: l, n :: r, k1, k2, h => by
    have none : ∀ {l : List Mo} {v : Int}, (∀ x ∈ l, v < x.1) → coef l v = 0 := fun {l v} hl => by
      induction l with
      | nil => rfl
      | cons x l ih =>
        simp only [coef]
        rw [if_neg (by have := hl x (by simp); omega)]
        exact ih (fun y hy => hl y (by simp [hy]))
    have e1 : m.1 = n.1 := by
      rcases Int.lt_trichotomy m.1 n.1 with hlt | e | hgt
      · have := h m.1
        rw [none (l := n :: r) (fun x hx => by
          rcases List.mem_cons.1 hx with rfl | hx
          · exact hlt
          · have := k2.head x hx; omega)] at this
        simp [coef] at this
        exact absurd this (k1.nz m (by simp))
      · exact e
      · have := h n.1
        rw [none (l := m :: l) (fun x hx => by
          rcases List.mem_cons.1 hx with rfl | hx
          · exact hgt
          · have := k1.head x hx; omega)] at this
        simp [coef] at this
        exact absurd this.symm (k2.nz n (by simp))
    have e2 : m.2 = n.2 := by have := h m.1; simpa [coef, e1] using this
    have e3 : l = r := fit_ext k1.tail k2.tail fun v => by
      have hv := h v
      simp only [coef] at hv
      by_cases hm : m.1 = v
      · rw [none (fun x hx => by have := k1.head x hx; omega), none (fun x hx => by have := k2.head x hx; omega)]
      · rw [if_neg hm, if_neg (by omega)] at hv
        exact hv
    rw [e3, Prod.ext e1 e2]
theorem coef_merge {ms more : List Mo} (h1 : Fit ms) (h2 : Fit more) (v : Int) : coef (merge ms more) v = coef ms v + coef more v := by
  rw [coef_dot (merge_fit h1 h2), dot_merge, coef_dot h1, coef_dot h2]
theorem coef_scale (k : Rat) {ms : List Mo} (h : Fit ms) (v : Int) : coef (scale k ms) v = k * coef ms v := by
  rw [coef_dot (scale_fit k h), dot_scale, coef_dot h]
def past (m n : Mo) (r : List Mo) : List Mo := if m.1 = n.1 then r else n :: r
theorem past_len (m n : Mo) (r : List Mo) : (past m n r).length ≤ r.length + 1 := by unfold past; split <;> simp
def vars : List Mo → List Mo → List Int
  | [], [] => []
  | [], n :: r => n.1 :: vars [] r
  | m :: l, [] => m.1 :: vars l []
  | m :: l, n :: r => if m.1 ≤ n.1 then m.1 :: vars l (past m n r) else n.1 :: vars (m :: l) r
termination_by l r => l.length + r.length
decreasing_by
  · simp
  · simp
  · have := past_len m n r; simp only [List.length_cons]; omega
  · simp
def refC (l : List Mo) (k : Rat) (r : List Mo) (v : Int) : Rat := coef l v + k * coef r v
def refAdd (l : List Mo) (k : Rat) (r : List Mo) : List Mo := (vars l r).flatMap fun v => keep (v, refC l k r v)
theorem vars_from : ∀ {l r : List Mo} {v : Int}, v ∈ vars l r → (∃ m ∈ l, m.1 = v) ∨ (∃ m ∈ r, m.1 = v) := by
  intro l r
  fun_induction vars l r with
  | case1 => intro v h; simp at h
  | case2 n r ih =>
    intro v h
    rcases List.mem_cons.1 h with rfl | h
    · exact .inr ⟨n, by simp, rfl⟩
    · rcases ih h with ⟨m, hm, e⟩ | ⟨m, hm, e⟩
      · simp at hm
      · exact .inr ⟨m, by simp [hm], e⟩
  | case3 m l ih =>
    intro v h
    rcases List.mem_cons.1 h with rfl | h
    · exact .inl ⟨m, by simp, rfl⟩
    · rcases ih h with ⟨x, hx, e⟩ | ⟨x, hx, e⟩
      · exact .inl ⟨x, by simp [hx], e⟩
      · simp at hx
  | case4 m l n r hle ih =>
    intro v h
    rcases List.mem_cons.1 h with rfl | h
    · exact .inl ⟨m, by simp, rfl⟩
    · rcases ih h with ⟨x, hx, e⟩ | ⟨x, hx, e⟩
      · exact .inl ⟨x, by simp [hx], e⟩
      · refine .inr ⟨x, ?_, e⟩
        unfold past at hx
        split at hx
        · simp [hx]
        · exact hx
  | case5 m l n r hle ih =>
    intro v h
    rcases List.mem_cons.1 h with rfl | h
    · exact .inr ⟨n, by simp, rfl⟩
    · rcases ih h with ⟨x, hx, e⟩ | ⟨x, hx, e⟩
      · exact .inl ⟨x, hx, e⟩
      · exact .inr ⟨x, by simp [hx], e⟩
theorem vars_up : ∀ {l r : List Mo}, Fit l → Fit r → (vars l r).Pairwise (· < ·) := by
  intro l r
  fun_induction vars l r with
  | case1 => intro _ _; exact List.Pairwise.nil
  | case2 n r ih =>
    intro _ h
    refine List.pairwise_cons.2 ⟨fun v hv => ?_, ih .nil h.tail⟩
    rcases vars_from hv with ⟨m, hm, e⟩ | ⟨m, hm, e⟩
    · simp at hm
    · have := h.head m hm; omega
  | case3 m l ih =>
    intro h _
    refine List.pairwise_cons.2 ⟨fun v hv => ?_, ih h.tail .nil⟩
    rcases vars_from hv with ⟨x, hx, e⟩ | ⟨x, hx, e⟩
    · have := h.head x hx; omega
    · simp at hx
  | case4 m l n r hle ih =>
    intro h k
    have hr : Fit (past m n r) := by unfold past; split; exact k.tail; exact k
    refine List.pairwise_cons.2 ⟨fun v hv => ?_, ih h.tail hr⟩
    rcases vars_from hv with ⟨x, hx, e⟩ | ⟨x, hx, e⟩
    · have := h.head x hx; omega
    · unfold past at hx
      split at hx
      · have := k.head x hx; omega
      · rcases List.mem_cons.1 hx with rfl | hx
        · omega
        · have := k.head x hx; omega
  | case5 m l n r hle ih =>
    intro h k
    refine List.pairwise_cons.2 ⟨fun v hv => ?_, ih h k.tail⟩
    rcases vars_from hv with ⟨x, hx, e⟩ | ⟨x, hx, e⟩
    · rcases List.mem_cons.1 hx with rfl | hx
      · omega
      · have := h.head x hx; omega
    · have := k.head x hx; omega
theorem vars_all : ∀ {l r : List Mo} {v : Int}, ((∃ m ∈ l, m.1 = v) ∨ (∃ m ∈ r, m.1 = v)) → v ∈ vars l r := by
  intro l r
  fun_induction vars l r with
  | case1 => intro v h; simp at h
  | case2 n r ih =>
    intro v h
    rcases h with ⟨m, hm, _⟩ | ⟨m, hm, e⟩
    · simp at hm
    · rcases List.mem_cons.1 hm with rfl | hm
      · exact e ▸ List.mem_cons_self
      · exact List.mem_cons_of_mem _ (ih (.inr ⟨m, hm, e⟩))
  | case3 n r ih =>
    intro v h
    rcases h with ⟨m, hm, e⟩ | ⟨m, hm, _⟩
    · rcases List.mem_cons.1 hm with rfl | hm
      · exact e ▸ List.mem_cons_self
      · exact List.mem_cons_of_mem _ (ih (.inl ⟨m, hm, e⟩))
    · simp at hm
  | case4 m l n r hle ih =>
    intro v h
    rcases h with ⟨x, hx, e⟩ | ⟨x, hx, e⟩
    · rcases List.mem_cons.1 hx with rfl | hx
      · exact e ▸ List.mem_cons_self
      · exact List.mem_cons_of_mem _ (ih (.inl ⟨x, hx, e⟩))
    · rcases List.mem_cons.1 hx with rfl | hx
      · by_cases he : m.1 = x.1
        · rw [← e, ← he]; exact List.mem_cons_self
        · refine List.mem_cons_of_mem _ (ih (.inr ⟨x, ?_, e⟩))
          unfold past; rw [if_neg he]; simp
      · refine List.mem_cons_of_mem _ (ih (.inr ⟨x, ?_, e⟩))
        unfold past
        split
        · exact hx
        · simp [hx]
  | case5 m l n r hle ih =>
    intro v h
    rcases h with ⟨x, hx, e⟩ | ⟨x, hx, e⟩
    · exact List.mem_cons_of_mem _ (ih (.inl ⟨x, hx, e⟩))
    · rcases List.mem_cons.1 hx with rfl | hx
      · exact e ▸ List.mem_cons_self
      · exact List.mem_cons_of_mem _ (ih (.inr ⟨x, hx, e⟩))
theorem by_vars {vs : List Int} (h : vs.Pairwise (· < ·)) (c : Int → Rat) : Fit (vs.flatMap fun v => keep (v, c v)) ∧ ∀ x, coef (vs.flatMap fun v => keep (v, c v)) x = if x ∈ vs then c x else 0 := by
  induction vs with
  | nil => exact ⟨.nil, fun x => by simp [coef]⟩
  | cons v vs ih =>
    obtain ⟨h1, h2⟩ := List.pairwise_cons.1 h
    obtain ⟨g1, g2⟩ := ih h2
    have hf : Fit (keep (v, c v) ++ vs.flatMap fun v => keep (v, c v)) := by
      refine (keep_fit _).app g1 fun x hx y hy => ?_
      obtain ⟨u, hu, hy⟩ := List.mem_flatMap.1 hy
      rw [keep_mem hx, keep_mem hy]
      exact h1 u hu
    refine ⟨hf, fun x => ?_⟩
    rw [List.flatMap_cons, coef_dot hf, dot_app, dot_keep, ← coef_dot g1, g2]
    have hnot : v ∉ vs := fun hv => by have := h1 v hv; omega
    by_cases hx : x = v
    · subst hx
      simp [one, hnot]; grind
    · have hx2 : ¬ v = x := fun e => hx e.symm
      simp [one, hx, hx2]; grind
theorem coef_none {l : List Mo} {v : Int} (h : ∀ m ∈ l, m.1 ≠ v) : coef l v = 0 := by
  induction l with
  | nil => rfl
  | cons m l ih =>
    simp only [coef]
    rw [if_neg (h m (by simp))]
    exact ih (fun x hx => h x (by simp [hx]))
theorem refAdd_fit {l r : List Mo} (h1 : Fit l) (h2 : Fit r) (k : Rat) : Fit (refAdd l k r) := (by_vars (vars_up h1 h2) _).1
theorem refAdd_coef {l r : List Mo} (h1 : Fit l) (h2 : Fit r) (k : Rat) (v : Int) : coef (refAdd l k r) v = refC l k r v := by
  unfold refAdd
  rw [(by_vars (vars_up h1 h2) _).2 v]
  split
  · rfl
  · rename_i hv
    have hn : ¬ ((∃ m ∈ l, m.1 = v) ∨ (∃ m ∈ r, m.1 = v)) := fun h => hv (vars_all h)
    unfold refC
    rw [coef_none (l := l) (fun m hm e => hn (.inl ⟨m, hm, e⟩)), coef_none (l := r) (fun m hm e => hn (.inr ⟨m, hm, e⟩))]
    grind
theorem merge_ref {l r : List Mo} (h1 : Fit l) (h2 : Fit r) (k : Rat) : merge l (scale k r) = refAdd l k r :=
  fit_ext (merge_fit h1 (scale_fit k h2)) (refAdd_fit h1 h2 k) fun v => by rw [coef_merge h1 (scale_fit k h2), coef_scale k h2, refAdd_coef h1 h2]; rfl
theorem scale_ref {r : List Mo} (h : Fit r) (k : Rat) : scale k r = refAdd [] k r := by
  rw [← merge_ref .nil h]; rfl
end Ln
end Go.Proofs.YtpjeecahaeaajaaGreatDoor

set_option linter.unusedVariables false
set_option linter.unusedSimpArgs false
namespace Go.Proofs.YtpjeecahaeaajaaGreatDoor.Tm
structure Opr where
  least : Int
  most : Int
  first : Int
  others : Int
  sort : Int
def big : Int := 9223372036854775807
def oprs : List (Int × Opr) :=
  [(1, ⟨0, 0, 0, 0, 1⟩), (2, ⟨0, 0, 0, 0, 1⟩), (3, ⟨0, 0, 0, 0, 1⟩), (4, ⟨0, 0, 0, 0, 2⟩), (5, ⟨0, 0, 0, 0, 2⟩), (6, ⟨1, 1, 1, 1, 1⟩),
   (7, ⟨2, big, 1, 1, 1⟩), (8, ⟨2, big, 1, 1, 1⟩), (9, ⟨2, big, 1, 1, 1⟩), (10, ⟨2, big, 1, 1, 1⟩), (11, ⟨3, 3, 1, 0, 0⟩), (12, ⟨2, big, 0, 0, 1⟩), (13, ⟨2, big, 0, 0, 1⟩),
   (14, ⟨2, big, 2, 2, 1⟩), (15, ⟨2, big, 2, 2, 1⟩), (16, ⟨2, big, 2, 2, 1⟩), (17, ⟨2, big, 2, 2, 1⟩), (18, ⟨2, big, 2, 2, 2⟩), (19, ⟨1, big, 2, 2, 2⟩), (20, ⟨2, big, 2, 2, 2⟩), (21, ⟨2, big, 2, 2, 2⟩)]
def lookL {α : Type} : List (Int × α) → Int → Option α
  | [], _ => none
  | e :: M, x => if x = e.1 then some e.2 else lookL M x
def oprAt (x : Int) : Option Opr := lookL oprs x
structure Nd where
  op : Int
  v : Int
  kids : List Int
  z : Bool
  ok : Bool
abbrev Kd := Int × Bool
structure Ru where
  b : Int
  r : Int
  ks : List Kd
def has (ks : List Kd) (x : Int) : Bool := decide (0 ≤ x) && decide (x < (ks.length : Int))
def kindOf (ks : List Kd) (x : Int) : Kd := if has ks x = true then ks.getD x.toNat (0, false) else (0, false)
def loose (ks : List Kd) (x : Int) : Bool := !(kindOf ks x).2
def greatest (g : Ru) (s : Int) : Int := if s = 1 then g.b else if s = 2 then g.r else 0
def told (g : Ru) (n : Nd) (s : Int) : Bool :=
  if n.op = 3 ∨ n.op = 4 then decide (0 ≤ n.v) && decide (n.v ≤ greatest g s) && n.z
  else if n.op = 5 then decide (n.v = 0) && n.ok
  else decide (n.v = 0) && n.z
def lastOf (kids : List Int) : Int := kids.getD (kids.length - 1) 0
def sortOver (ks : List Kd) (kids : List Int) (s : Int) : Int := if s = 0 then (kindOf ks (lastOf kids)).1 else s
def kidSort (o : Opr) (i : Nat) : Int := if i = 0 then o.first else o.others
def fits (ks : List Kd) (kids : List Int) (o : Opr) (i : Nat) : Bool := decide ((kindOf ks (kids.getD i 0)).1 = sortOver ks kids (kidSort o i))
def sorted (ks : List Kd) (kids : List Int) (o : Opr) : Bool := (List.range kids.length).all (fits ks kids o)
def idxP (p : Int → Bool) : List Int → Int
  | [] => -1
  | x :: l => if p x = true then 0 else if idxP p l < 0 then -1 else idxP p l + 1
def linear (ks : List Kd) (n : Nd) : Bool :=
  if n.op = 20 then decide (idxP (loose ks) n.kids < 0) || !(n.kids.drop ((idxP (loose ks) n.kids).toNat + 1)).any (loose ks)
  else if n.op = 21 then !(n.kids.drop 1).any (loose ks)
  else true
def ground (ks : List Kd) (n : Nd) : Bool := if n.op = 5 then true else if n.op = 18 ∨ n.op = 19 ∨ n.op = 20 ∨ n.op = 21 then !n.kids.any (loose ks) else false
def counts (o : Opr) (k : Int) : Bool := decide (o.least ≤ k) && decide (k ≤ o.most)
def codeOf (g : Ru) (n : Nd) : Nat :=
  match oprAt n.op with
  | none => 1
  | some o =>
    if told g n o.sort = false then 1
    else if n.kids.any (fun x => !has g.ks x) = true then 2
    else if counts o n.kids.length = false then 15
    else if sorted g.ks n.kids o = false then 14
    else if linear g.ks n = false then 16
    else if 1048576 ≤ g.ks.length then 4
    else 0
def sortOf (g : Ru) (n : Nd) : Int := sortOver g.ks n.kids ((oprAt n.op).getD ⟨0, 0, 0, 0, 0⟩).sort
def next (g : Ru) (n : Nd) : Ru := if codeOf g n = 0 then { g with ks := g.ks ++ [(sortOf g n, ground g.ks n)] } else g
end Go.Proofs.YtpjeecahaeaajaaGreatDoor.Tm
