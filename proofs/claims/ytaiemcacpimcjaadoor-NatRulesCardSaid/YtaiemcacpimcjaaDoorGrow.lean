/-
  A row of digits times a number and more, in its own memory: the mathematics of it; nat.grow and nat.digits.
-/
import Derived.Test.YtaiemcacpimcjaaDoorText
set_option linter.unusedVariables false
set_option linter.unusedSimpArgs false
namespace Go.Proofs.YtaiemcacpimcjaaDoor
open Go.RowKit Rep
namespace Rep

theorem rep_len_mono {b : Nat} (hb : 2 ≤ b) {n m : Nat} (h : n ≤ m) : (rep b n).length ≤ (rep b m).length :=
  (rep_length_le hb n _).2 (Nat.lt_of_le_of_lt h ((rep_length_le hb m _).1 (Nat.le_refl _)))
/-- Digits that are no more than the number's row has are that row. -/
theorem eq_rep_len {b : Nat} (hb : 2 ≤ b) {l : List Nat} {n : Nat} (hd : Dig b l) (hv : val b l = n) (hl : l.length ≤ (rep b n).length) : l = rep b n := by
  have h1 := strip_eq hb hd
  rw [hv] at h1
  have h2 : (strip l).length = (rep b n).length := by rw [h1]
  have h3 := cutAt_le l l.length
  rw [strip_length] at h2
  rw [← h1]
  unfold strip
  rw [List.take_of_length_le (by omega)]

/-- Behind k digits of xs, times t and m more: they are Q's, and c is carried. -/
structure Grow (b t m : Nat) (xs Q : List Nat) (k c : Nat) : Prop where
  len : Q.length = xs.length
  dig : Dig b Q
  low : val b (Q.take k) + b ^ k * c = t * val b (xs.take k) + m
  high : ∀ j, k ≤ j → Q.getD j 0 = xs.getD j 0
  lt : c < t

theorem Grow.start {b t m : Nat} {xs : List Nat} (hx : Dig b xs) (hm : m < t) : Grow b t m xs xs 0 m := ⟨rfl, hx, by simp [val], fun _ _ => rfl, hm⟩
theorem take_succ_val (b : Nat) (l : List Nat) (k : Nat) (h : k < l.length) : val b (l.take (k + 1)) = val b (l.take k) + b ^ k * l.getD k 0 := by
  rw [List.take_succ_eq_append_getElem h, val_snoc, List.length_take, Nat.min_eq_left (by omega), List.getD_eq_getElem?_getD, List.getElem?_eq_getElem h]; rfl
theorem Grow.step {b t m : Nat} {xs Q : List Nat} {k c : Nat} (h : Grow b t m xs Q k c) (hk : k < xs.length) (hb : 2 ≤ b) {n : Nat} (hn : n = Q.getD k 0 * t + c) : Grow b t m xs (Q.set k (n % b)) (k + 1) (n / b) := by
  have hkQ : k < Q.length := by rw [h.len]; exact hk
  have hx : Q.getD k 0 < b := h.dig.getD k (by omega)
  have hlt : n < b * t := by
    have h1 : (Q.getD k 0 + 1) * t ≤ b * t := Nat.mul_le_mul_right t hx
    rw [Nat.add_mul, Nat.one_mul] at h1
    have := h.lt
    omega
  refine ⟨by simpa using h.len, h.dig.set _ _ (Nat.mod_lt _ (by omega)), ?_, fun j hj => ?_, by rw [Nat.div_lt_iff_lt_mul (by omega), Nat.mul_comm]; exact hlt⟩
  · rw [take_succ_val b (Q.set k (n % b)) k (by simpa using hkQ), take_succ_val b xs k hk, List.take_set_of_le (Nat.le_refl k)]
    have e : (Q.set k (n % b)).getD k 0 = n % b := by rw [List.getD_eq_getElem?_getD, List.getElem?_set_self hkQ]; rfl
    rw [e, Nat.pow_succ, ← h.high k (Nat.le_refl k), Nat.mul_add]
    have h2 := h.low
    have h3 := Nat.mod_add_div n b
    have h4 : b ^ k * (n % b) + b ^ k * b * (n / b) = b ^ k * n := by rw [Nat.mul_assoc, ← Nat.mul_add, h3]
    have h5 : b ^ k * n = t * (b ^ k * Q.getD k 0) + b ^ k * c := by
      rw [hn, Nat.mul_add]
      congr 1
      ac_rfl
    omega
  · rw [List.getD_eq_getElem?_getD, List.getElem?_set_ne (by omega), ← List.getD_eq_getElem?_getD]
    exact h.high j (by omega)
theorem Grow.done {b t m : Nat} {xs Q : List Nat} {c : Nat} (h : Grow b t m xs Q xs.length c) (hb : 2 ≤ b) (hx : Dig b xs) (htop : Top xs) : Q ++ rep b c = rep b (t * val b xs + m) := by
  have hl := h.low
  rw [List.take_of_length_le (Nat.le_of_eq h.len), List.take_length] at hl
  have ht : 1 ≤ t := by have := h.lt; omega
  by_cases hc : c = 0
  · subst hc
    rw [rep_zero, List.append_nil]
    refine eq_rep_len hb h.dig (by omega) ?_
    rw [h.len]
    conv => lhs; rw [← rep_val hb hx htop]
    refine rep_len_mono hb ?_
    have : 1 * val b xs ≤ t * val b xs := Nat.mul_le_mul_right _ ht
    omega
  · refine eq_rep hb (h.dig.append (rep_dig (by omega) c)) ?_ ?_
    · have hne : rep b c ≠ [] := fun e => hc ((rep_eq_nil hb).1 e)
      unfold Top
      rw [List.getLast?_append]
      have := rep_top hb c
      unfold Top at this
      rw [List.getLast?_eq_some_getLast hne] at this ⊢
      simpa using this
    · rw [val_append, val_rep hb, h.len]
      exact hl
theorem rep_small {b : Nat} (hb : 2 ≤ b) {c : Nat} (h : c < b) (h0 : c ≠ 0) : rep b c = [c] :=
  (eq_rep hb (Dig.cons h (Dig.nil _)) (by simpa [Top] using h0) (by simp [val])).symm
end Rep

/-- A slice that lies in a block of its own from B on, at its head; or nil. -/
def OwnR (E : TypeId) (f : Nat → Value) (B : Nat) (w : World) (a : Option Addr) (c : Nat) (xs : List Nat) : Prop :=
  c ≤ maxLen ∧ ((a = none ∧ c = 0 ∧ xs = []) ∨ ∃ g, a = some ⟨g, 0, none⟩ ∧ B ≤ g ∧ Row E w g c (xs.map f))
theorem Own.r {B : Nat} {w : World} {a : Option Addr} {c : Nat} {xs : List Nat} (h : Own B w a c xs) : OwnR 48 u32v B w a c xs := h
theorem OwnR.own {B : Nat} {w : World} {a : Option Addr} {c : Nat} {xs : List Nat} (h : OwnR 48 u32v B w a c xs) : Own B w a c xs := h
theorem OwnR.reads {E : TypeId} {f : Nat → Value} {B : Nat} {w : World} {a : Option Addr} {c : Nat} {xs : List Nat} (h : OwnR E f B w a c xs) : Reads w a (xs.map f) := by
  obtain ⟨_, ⟨rfl, rfl, rfl⟩ | ⟨g, rfl, hg, hr⟩⟩ := h
  · exact .inl rfl
  · exact hr.reads0
theorem OwnR.le {E : TypeId} {f : Nat → Value} {B : Nat} {w : World} {a : Option Addr} {c : Nat} {xs : List Nat} (h : OwnR E f B w a c xs) : xs.length ≤ c := by
  obtain ⟨_, ⟨rfl, rfl, rfl⟩ | ⟨g, rfl, hg, hr⟩⟩ := h
  · simp
  · simpa using hr.le
theorem OwnR.row {E : TypeId} {f : Nat → Value} {B : Nat} {w : World} {a : Option Addr} {c : Nat} {xs : List Nat} (h : OwnR E f B w a c xs) (hn : 0 < xs.length) : ∃ g, a = some ⟨g, 0, none⟩ ∧ B ≤ g ∧ Row E w g c (xs.map f) := by
  obtain ⟨_, ⟨rfl, rfl, rfl⟩ | h⟩ := h
  · simp at hn
  · exact h
theorem OwnR.kept {E : TypeId} {f : Nat → Value} {B : Nat} {w w' : World} {a : Option Addr} {c : Nat} {xs : List Nat} (h : OwnR E f B w a c xs) (hb : Below w.heap.size w w') : OwnR E f B w' a c xs := by
  obtain ⟨h1, h2 | ⟨g, rfl, hg, hr⟩⟩ := h
  · exact ⟨h1, .inl h2⟩
  · exact ⟨h1, .inr ⟨g, rfl, hg, hr.kept hb⟩⟩
theorem OwnR.mono {E : TypeId} {f : Nat → Value} {B B' : Nat} {w : World} {a : Option Addr} {c : Nat} {xs : List Nat} (h : OwnR E f B w a c xs) (hB : B' ≤ B) : OwnR E f B' w a c xs := by
  obtain ⟨h1, h2 | ⟨g, rfl, hg, hr⟩⟩ := h
  · exact ⟨h1, .inl h2⟩
  · exact ⟨h1, .inr ⟨g, rfl, Nat.le_trans hB hg, hr⟩⟩
theorem OwnR.grown {E : TypeId} {f : Nat → Value} {B : Nat} {w w' : World} {row : Option Nat} {a : Option Addr} {c : Nat} {xs : List Nat} (h : OwnR E f B w a c xs) (hg : w.grownBy w' row) (hne : a = none ∨ blk a ≠ row) : OwnR E f B w' a c xs := by
  obtain ⟨h1, h2 | ⟨g, rfl, hgB, hr⟩⟩ := h
  · exact ⟨h1, .inl h2⟩
  · rcases hne with hne | hne
    · cases hne
    · exact ⟨h1, .inr ⟨g, rfl, hgB, hr.grown hg hne⟩⟩
theorem OwnR.nil (E : TypeId) (f : Nat → Value) (B : Nat) (w : World) : OwnR E f B w none 0 [] := ⟨by simp [maxLen], .inl ⟨rfl, rfl, rfl⟩⟩
theorem OwnR.owns {E : TypeId} {f : Nat → Value} {B : Nat} {w : World} {a : Option Addr} {c : Nat} {xs : List Nat} (h : OwnR E f B w a c xs) : w.ownsRow B E 1 (.slice a xs.length c) xs.length (xs.map f) := by
  obtain ⟨h1, ⟨rfl, rfl, rfl⟩ | ⟨g, rfl, hg, hr⟩⟩ := h
  · exact ⟨rfl, .inl ⟨rfl, rfl⟩⟩
  · have := hr.own hg h1
    rwa [List.length_map] at this
theorem ownBlock_blk (a : Option Addr) (n c : Nat) : (Value.slice a n c).ownBlock = blk a := by
  cases a <;> rfl

/-- One element more, onto a slice of one's own. -/
theorem wpList_append_one {P : Program} (w : World) {ops : Array Oper} {rest : List Oper} {o : Oper} {a : Act} {Q : Exit → Act → World → Prop} (hgd : o.guard = none) (s x : Operand) (t : TypeId)
    (ho : o.op = .call { callee := .builtin .append, args := #[s, x], argTypes := #[t, t] }) (e : TypeId) (z : Value) (bts : Nat) (ht : P.underlying t = some (.slice e))
    (hi : (P.info? e).map (fun i => (i.zero, i.size, i.bytes)) = some (some z, 1, bts)) (hz1 : z.cells.size = 1)
    (f : Nat → Value) (B : Nat) (aa : Option Addr) (n cap : Nat) (xs : List Nat) (hs : a.eval s = .slice aa n cap) (hown : OwnR e f B w aa cap xs) (hn : xs.length = n)
    (ax : Addr) (c d : Nat) (hx : a.eval x = .slice (some ax) 1 c) (hr : w.cell? ax = some (f d)) (h1 : (f d).oneCell' = true)
    (hmax : n + 1 ≤ maxLen) (hb : (n + 1) * bts ≤ 140737488355328) (hB : B ≤ w.heap.size)
    (h : ∀ g' cap' w', Row e w' g' cap' ((xs ++ [d]).map f) → cap' ≤ maxLen → w.grownBy w' (blk aa) → B ≤ g' → wpList P ops Q rest (a.put o.dst (.slice (some ⟨g', 0, none⟩) (n + 1) cap')) w') : wpList P ops Q (o :: rest) a w := by
  obtain ⟨i, h2, h3, h4, h5⟩ := info_parts hi
  have hw := hown.owns
  rw [hn] at hw
  refine wpList_append_own w hgd s x t ho B e i z 1 bts ht h2 h3 h4 h5 hz1 (by decide) _ n (xs.map f) hs hw ax 1 c [f d] hx rfl ?_ (by simpa using h1) hmax hb hB ?_
  · intro j u hu
    rcases j with _ | j
    · simp only [List.getElem?_cons_zero, Option.some.injEq] at hu
      subst hu
      simpa [Addr.add] using hr
    · simp at hu
  · intro v' w' a1 a2 a3
    rw [ownBlock_blk] at a2
    obtain ⟨hl, ⟨e1, e2⟩ | ⟨g', cap', cur, rfl, hb', hh, hnc, hcm, hcs, htake⟩⟩ := a1
    · omega
    · refine h g' cap' w' ⟨cur, hh, by omega, ?_, ?_⟩ hcm a2 hb'
      · simp; omega
      · rw [List.map_append, List.length_append, List.length_map, hn]
        rw [Nat.mul_one] at htake
        exact htake

/-- At a lie limbs that are behind k places; all else is as it was. -/
def GrowIn (w : World) (E : TypeId) (f : Nat → Value) (b t m B : Nat) (a : Option Addr) (cap : Nat) (xs : List Nat) (k c : Nat) (wr : World) : Prop :=
  ∃ Q : List Nat, OwnR E f B wr a cap Q ∧ Rep.Grow b t m xs Q k c ∧ w.grownBy wr (blk a)

theorem GrowIn.start {w : World} {E : TypeId} {f : Nat → Value} {b t m B cap : Nat} {a : Option Addr} {xs : List Nat} (hr : OwnR E f B w a cap xs) (hx : Dig b xs) (hm : m < t) : GrowIn w E f b t m B a cap xs 0 m w :=
  ⟨xs, hr, Rep.Grow.start hx hm, grown_refl _ _⟩
theorem GrowIn.step {w : World} {E : TypeId} {f : Nat → Value} {b t m B cap : Nat} {a : Option Addr} {xs : List Nat} {k c : Nat} {wr : World} (h : GrowIn w E f b t m B a cap xs k c wr) (hk : k < xs.length) (hb : 2 ≤ b) :
    ∃ g x : Nat, a = some ⟨g, 0, none⟩ ∧ xs.length ≤ cap ∧ x < b ∧ wr.cell? ⟨g, k, none⟩ = some (f x) ∧ wr.frozen? ⟨g, k, none⟩ = false ∧ c < t ∧ x * t + c < b * t ∧
      ∀ n q r : Nat, n = x * t + c → q = n / b → r = n % b → GrowIn w E f b t m B a cap xs (k + 1) q (wr.setCell ⟨g, k, none⟩ (f r)) := by
  obtain ⟨Q, h1, h2, h3⟩ := h
  have hlen : k < Q.length := by rw [h2.len]; exact hk
  have hx : Q.getD k 0 < b := h2.dig.getD k (by omega)
  have hle := h1.le
  rw [h2.len] at hle
  obtain ⟨g, rfl, hg, hr⟩ := h1.row (by omega)
  refine ⟨g, Q.getD k 0, rfl, hle, hx, hr.cell _ _ (map_getElem? hlen), hr.frozen _, h2.lt, ?_, ?_⟩
  · have h4 : (Q.getD k 0 + 1) * t ≤ b * t := Nat.mul_le_mul_right t hx
    rw [Nat.add_mul, Nat.one_mul] at h4
    have := h2.lt
    omega
  · intro n q r hn hq hr'
    subst hq hr'
    refine ⟨Q.set k (n % b), ⟨h1.1, .inr ⟨g, rfl, hg, ?_⟩⟩, h2.step hk hb hn, ⟨h3.os, h3.tape, h3.output, by have := h3.size; simpa [World.setCell] using this, fun j hj hne => ?_⟩⟩
    · have := hr.set k (f (n % b))
      rwa [← List.map_set] at this
    · rw [Below.heap_setCell _ _ _ _ (by simpa [blk] using hne)]
      exact h3.block j hj hne
theorem GrowIn.done {w : World} {E : TypeId} {f : Nat → Value} {b t m B cap : Nat} {a : Option Addr} {xs : List Nat} {c : Nat} {wr : World} (h : GrowIn w E f b t m B a cap xs xs.length c wr) (hb : 2 ≤ b) (hx : Dig b xs) (ht : Top xs) :
    ∃ Q : List Nat, OwnR E f B wr a cap Q ∧ Q.length = xs.length ∧ Q ++ rep b c = rep b (t * val b xs + m) ∧ c < t ∧ w.grownBy wr (blk a) := by
  obtain ⟨Q, h1, h2, h3⟩ := h
  exact ⟨Q, h1, h2.len, h2.done hb hx ht, h2.lt, h3⟩

/-- grow's answer: n, in the memory that it was given or in new one. -/
def GivesGrow (B : Nat) (a : Option Addr) (n : Nat) (w : World) (e : Ending) (w' : World) : Prop :=
  ∃ a' c', e = .returned (.slice a' (L n).length c') ∧ Own B w' a' c' (L n) ∧ w.grownBy w' (blk a)

theorem grownBy_trans_new {w w1 w2 : World} {row : Option Nat} (h : w.grownBy w1 row) (h2 : w1.grownBy w2 row) : w.grownBy w2 row :=
  ⟨h2.os.trans h.os, h2.tape.trans h.tape, h2.output.trans h.output, Nat.le_trans h.size h2.size, fun k hk hne => (h2.block k (Nat.lt_of_lt_of_le hk h.size) hne).trans (h.block k hk hne)⟩
theorem grownBy_alloc (w : World) (o : Obj) (row : Option Nat) : w.grownBy (w.alloc o) row :=
  ⟨rfl, rfl, rfl, by simp, fun k hk _ => Below.heap_alloc w o k hk⟩

theorem grow_full {B : Nat} {a : Option Addr} {n : Nat} {w wr w' : World} {Q : List Nat} {c g' cap' : Nat} (hQ : Q ++ rep 4294967296 c = L n) (hc : c < 4294967296) (h0 : 0 < c) (hg : w.grownBy wr (blk a)) (hr : Row 48 w' g' cap' ((Q ++ [c]).map u32v)) (hcap : cap' ≤ maxLen)
    (hgr : (wr.alloc (.cells #[.int .u32 (c : Int)] 48)).grownBy w' (blk a)) (hB : B ≤ g') : GivesGrow B a n w (.returned (.slice (some ⟨g', 0, none⟩) (Q.length + 1) cap')) w' := by
  have e : Q ++ [c] = L n := by rw [← hQ, Rep.rep_small (by omega) hc (by omega)]
  refine ⟨some ⟨g', 0, none⟩, cap', by rw [← e]; simp, ⟨hcap, .inr ⟨g', rfl, hB, by rw [← e]; exact hr⟩⟩, grownBy_trans_new (grownBy_trans_new hg (grownBy_alloc _ _ _)) hgr⟩

set_option maxRecDepth 100000 in
set_option maxHeartbeats 1000000 in
theorem grow_any (B t m : Nat) (a : Option Addr) (cap n : Nat) (w : World) (hx : Own B w a cap (L n)) (ht : t < 4294967296) (hm : m < t) (hB : B ≤ w.heap.size) (hl : (L n).length ≤ 1073741824) :
    Calls Tryd.prog 47 #[.slice a (L n).length cap, .int .u32 t, .int .u32 m] w (GivesGrow B a (t * n + m) w) := by
  have HS : GrowIn w 48 u32v 4294967296 t m B a cap (L n) 0 m w := GrowIn.start hx.r (L_lim n) hm
  go_enter Tryd.func47, Tryd.ntmps47
  go_wp2_with fail
  go_loopw [7, 14] (fun cv iv wr => ∃ k c : Nat, k ≤ (L n).length ∧ cv = .int .u64 c ∧ iv = .int .i64 k ∧ c < t ∧ GrowIn w 48 u32v 4294967296 t m B a cap (L n) k c wr) (fun _ iv _ => (L n).length - (intOf iv).toNat)
  case atStart => exact ⟨0, m, by omega, rfl, rfl, hm, HS⟩
  case round =>
    obtain ⟨k, c, hk, rfl, rfl, hct, hin⟩ := hrel
    clear HS hx
    by_cases hlt : k < (L n).length
    · obtain ⟨g, x, rfl, hle, hx, hcell, hfr, _, hb, hnext⟩ := hin.step hlt (by omega)
      have hxt : x * t < 18446744073709551616 := by omega
      obtain ⟨T, hT⟩ : ∃ T, T = x * t + c := ⟨_, rfl⟩
      have hTb : T < 18446744073709551616 := by omega
      have HN := Lib.hid (hnext T (T / 4294967296) (T % 4294967296) hT rfl rfl)
      have HT := Lib.hid hT
      have hTc : T / 4294967296 < t := by omega
      clear hnext hin hb
      unfold u32v at hcell
      have HTe : Hid ((c : Int) + (x : Int) * (t : Int) = (T : Int)) := Lib.hid (by rw [HT.out, Int.natCast_add, Int.natCast_mul, Int.add_comm])
      go_wp2_with fail
      rw [HTe.out]
      go_roundw
      case rel => exact ⟨k + 1, T / 4294967296, by omega, by go_num, by go_num, hTc, HN.out⟩
      case measure => simp [intOf]; omega
    · obtain rfl : k = (L n).length := by omega
      obtain ⟨Q, hQ, hQl, hQe, hct', hg⟩ := hin.done (by omega) (L_lim n) (rep_top (by omega) n)
      rw [show val 4294967296 (L n) = n from V_L n] at hQe
      clear hin
      rcases Nat.eq_zero_or_pos c with h0 | h0
      · subst h0
        rw [rep_zero, List.append_nil] at hQe
        subst hQe
        have HQ := Lib.hid (And.intro hQ (And.intro hQl hg))
        clear hQ hQl hg
        go_wp2_with fail
        go_ret
        exact ⟨a, cap, by rw [← HQ.out.2.1]; rfl, HQ.out.1.own, HQ.out.2.2⟩
      · have hc0 : (0 : Int) < (c : Int) := by omega
        have hsz : wr.heap.size ≥ w.heap.size := hg.size
        have hQ1 := hQ.kept ((Below.refl wr.heap.size wr).alloc (Nat.le_refl _) (.cells #[.int .u32 (c : Int)] 48))
        have hcell : (wr.alloc (.cells #[.int .u32 (c : Int)] 48)).cell? ⟨wr.heap.size, 0, none⟩ = some (u32v c) := (Row.new (E := 48) wr #[.int .u32 (c : Int)]).cell 0 _ rfl
        have HQ := Lib.hid (And.intro hQe (And.intro hQl hg))
        have hQ1l := hQl
        clear hQ hg hQe hQl
        go_wp2_with (first | (at_builtin; refine wpList_append_one _ rfl (.tmp 36) (.tmp 39) 23 rfl 48 (.int .u32 0) 4 Tryd.underlying23 Tryd.info48 rfl u32v B a _ _ Q rfl hQ1 hQ1l ⟨wr.heap.size, 0, none⟩ 1 c rfl hcell rfl (by unfold maxLen; omega) (by omega) (by simp; omega) ?_; intro g' cap' w' hrow' hcap hgrow hg') | fail)
        go_ret
        have h := grow_full (B := B) HQ.out.1 (by omega) h0 HQ.out.2.2 hrow' hcap hgrow hg'
        rw [HQ.out.2.1] at h
        exact h
end Go.Proofs.YtaiemcacpimcjaaDoor
