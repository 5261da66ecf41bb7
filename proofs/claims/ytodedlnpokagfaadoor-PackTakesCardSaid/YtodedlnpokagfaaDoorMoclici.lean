/- By program out of: Text, Grow, Parse, Hand, RefA, Knuth, PkIn, PkCut, PkTake, RefB, Dig. -/
import Derived.Test.YtodedlnpokagfaaDoorMdnomnp
import Derived.Test.YtodedlnpokagfaaDoorMjjocoa
import Derived.Laws.BytesArg
import Derived.Deep.QuietTactic
import Derived.BigQuiet
import Derived.Test.YtodedlnpokagfaaDoorMeljofo
/-
  nat.Text.
-/
set_option linter.unusedVariables false
set_option linter.unusedSimpArgs false
namespace Go.Proofs.YtodedlnpokagfaaDoor
open Go.RowKit Rep

/-- A byte's cell. -/
def u8v (d : Nat) : Value := .int .u8 (d : Int)
/-- A number's digits. -/
def D (n : Nat) : List Nat := Rep.rep 10 n
/-- The bytes of a number's text. -/
def txt (n : Nat) : List UInt8 := if n = 0 then [48] else (D n).reverse.map (fun d => UInt8.ofNat (48 + d))
def strOf (l : List UInt8) : ByteArray := ⟨l.toArray⟩

/-- A call gives a number's text. -/
def GivesTxt (n : Nat) (w : World) (e : Ending) (w' : World) : Prop := e = .returned (.string (strOf (txt n))) ∧ Below w.heap.size w w'

theorem Tryd.info5 : (Tryd.prog.info? 5).map (fun i => (i.zero, i.size, i.bytes)) = some (some (.int .u8 0), 1, 1) := by kernel_rfl

/-- What is told already: the lower digits, in the block g0 from t on. -/
def Told (g0 T N : Nat) (t left : Nat) (wr : World) : Prop :=
  ∃ dl O : List Nat, Row 5 wr g0 T (O.map u8v) ∧ O.length = T ∧ t + dl.length = T ∧ O.drop t = (dl.map (48 + ·)).reverse ∧ Dig 10 dl ∧ N = val 10 dl + 10 ^ dl.length * left
/-- What is left, in a block of its own. -/
def LeftAt (B g0 : Nat) (wr : World) (a : Option Addr) (c left : Nat) : Prop :=
  c ≤ maxLen ∧ ((a = none ∧ c = 0 ∧ left = 0) ∨ ∃ g, a = some ⟨g, 0, none⟩ ∧ B ≤ g ∧ g < g0 ∧ Row 71 wr g c ((L left).map u32v))

theorem Told.room {g0 T N t left : Nat} {wr : World} (h : Told g0 T N t left wr) (hl : 0 < left) (hN : N < 10 ^ (T - 9)) (hT : 9 ≤ T) : 9 < t := by
  obtain ⟨dl, O, h1, h2, h3, h4, h5, h6⟩ := h
  have h7 : 10 ^ dl.length * 1 ≤ 10 ^ dl.length * left := Nat.mul_le_mul_left _ hl
  have h8 : 10 ^ dl.length < 10 ^ (T - 9) := by omega
  have h9 := (Nat.pow_lt_pow_iff_right (a := 10) (by omega)).1 h8
  omega

theorem Told.kept {g0 T N t left : Nat} {w w' : World} {row : Option Nat} (h : Told g0 T N t left w) (hg : w.grownBy w' row) (hne : row ≠ some g0) : Told g0 T N t left w' := by
  obtain ⟨dl, O, h1, r⟩ := h
  exact ⟨dl, O, h1.grown hg (fun e => hne e.symm), r⟩

/-- One digit more. -/
theorem Told.step {g0 T N t q r : Nat} {wr : World} (h : Told g0 T N (t + 1) (r + 10 * q) wr) (hr : r < 10) : (∃ v : Nat, wr.cell? ⟨g0, t, none⟩ = some (.int .u8 v)) ∧ wr.frozen? ⟨g0, t, none⟩ = false ∧ Told g0 T N t q (wr.setCell ⟨g0, t, none⟩ (.int .u8 ((48 + r : Nat) : Int))) := by
  obtain ⟨dl, O, h1, h2, h3, h4, h5, h6⟩ := h
  refine ⟨⟨_, h1.cell _ _ (map_getElem? (xs := O) (by omega))⟩, h1.frozen _, dl ++ [r], O.set t (48 + r), ?_, by simpa using h2, by simp; omega, ?_, h5.append (Dig.cons hr (Dig.nil _)), ?_⟩
  · have := h1.set t (u8v (48 + r))
    rwa [← List.map_set] at this
  · rw [List.drop_eq_getElem_cons (by simp; omega), List.getElem_set_self, List.drop_set, if_pos (by omega), h4]
    simp
  · rw [val_snoc, h6, List.length_append, List.length_cons, List.length_nil, Nat.pow_succ, Nat.mul_add, Nat.mul_assoc]
    omega

theorem pow_bound (n : Nat) : 4294967296 ^ n ≤ 10 ^ (10 * n) := by
  rw [Nat.pow_mul]
  exact Nat.pow_le_pow_left (by omega) n

/-- Within a group of nine digits. -/
def TextIn (w : World) (g0 T N : Nat) (a : Option Addr) (c q j t r : Nat) (wr : World) : Prop :=
  r < 10 ^ (9 - j) ∧ Told g0 T N t (r + 10 ^ (9 - j) * q) wr ∧ LeftAt w.heap.size g0 wr a c q ∧ Below w.heap.size w wr

theorem TextIn.step {w : World} {g0 T N : Nat} {a : Option Addr} {c q j t r : Nat} {wr : World} (h : TextIn w g0 T N a c q j (t + 1) r wr) (hj : j < 9) (hg0 : w.heap.size ≤ g0) :
    (∃ v : Nat, wr.cell? ⟨g0, t, none⟩ = some (.int .u8 v)) ∧ wr.frozen? ⟨g0, t, none⟩ = false ∧ TextIn w g0 T N a c q (j + 1) t (r / 10) (wr.setCell ⟨g0, t, none⟩ (.int .u8 ((48 + r % 10 : Nat) : Int))) := by
  obtain ⟨h1, h2, h3, h4⟩ := h
  have hp : 10 ^ (9 - j) = 10 * 10 ^ (9 - (j + 1)) := by rw [show 9 - j = 9 - (j + 1) + 1 from by omega, Nat.pow_succ, Nat.mul_comm]
  have he : r + 10 ^ (9 - j) * q = r % 10 + 10 * (r / 10 + 10 ^ (9 - (j + 1)) * q) := by
    rw [hp, Nat.mul_add, Nat.mul_assoc]
    omega
  rw [he] at h2
  obtain ⟨hv, hf, ht⟩ := h2.step (Nat.mod_lt _ (by omega))
  refine ⟨hv, hf, by rw [hp] at h1; omega, ht, ?_, h4.setCell (p := ⟨g0, t, none⟩) hg0 _⟩
  obtain ⟨hc, hn | ⟨g, rfl, hg, hgg, hr⟩⟩ := h3
  · exact ⟨hc, .inl hn⟩
  · exact ⟨hc, .inr ⟨g, rfl, hg, hgg, hr.other _ _ (by simp; omega)⟩⟩

theorem drop_zeros (l : List Nat) : ∃ k, l = List.replicate k 0 ++ l.dropWhile (· == 0) ∧ (l.dropWhile (· == 0)).head? ≠ some 0 := by
  induction l with
  | nil => exact ⟨0, rfl, by simp⟩
  | cons d l ih =>
    by_cases h : d = 0
    · subst h
      obtain ⟨k, h1, h2⟩ := ih
      refine ⟨k + 1, ?_, by simpa using h2⟩
      rw [List.dropWhile_cons, if_pos (by rfl), List.replicate_succ, List.cons_append, ← h1]
    · refine ⟨0, ?_, ?_⟩
      · rw [List.dropWhile_cons, if_neg (by simpa using h)]; rfl
      · rw [List.dropWhile_cons, if_neg (by simpa using h)]; simpa using h
theorem drop_rep (b : Nat) (hb : 2 ≤ b) (dl : List Nat) (h : Dig b dl) : dl.reverse.dropWhile (· == 0) = (rep b (val b dl)).reverse := by
  obtain ⟨k, h1, h2⟩ := drop_zeros dl.reverse
  have h3 : dl = (dl.reverse.dropWhile (· == 0)).reverse ++ List.replicate k 0 := by
    have := congrArg List.reverse h1
    rwa [List.reverse_reverse, List.reverse_append, List.reverse_replicate] at this
  have h4 : (dl.reverse.dropWhile (· == 0)).reverse = rep b (val b dl) := by
    refine eq_rep hb ?_ ?_ ?_
    · intro d hd
      exact h d (by rw [h3]; exact List.mem_append_left _ hd)
    · unfold Top
      rwa [List.getLast?_reverse]
    · conv => rhs; rw [h3, val_append, val_zeros, Nat.mul_zero, Nat.add_zero]
  rw [← h4, List.reverse_reverse]
theorem drop_text (dl : List Nat) (h : Dig 10 dl) : ((dl.reverse.map ((fun n => UInt8.ofNat n) ∘ fun x => 48 + x)).dropWhile (· == 48)) = (rep 10 (val 10 dl)).reverse.map (fun d => UInt8.ofNat (48 + d)) := by
  rw [← drop_rep 10 (by omega) dl h, List.dropWhile_map]
  have : ∀ l : List Nat, Dig 10 l → l.dropWhile ((fun x => x == 48) ∘ ((fun n => UInt8.ofNat n) ∘ fun x => 48 + x)) = l.dropWhile (· == 0) := by
    intro l
    induction l with
    | nil => intro _; rfl
    | cons d l ih =>
      intro hl
      have hd := hl.head
      have hp : ((fun x => x == 48) ∘ ((fun n => UInt8.ofNat n) ∘ fun x => 48 + x)) d = (d == 0) := by
        match d, hd with
        | 0, _ => rfl
        | 1, _ => rfl
        | 2, _ => rfl
        | 3, _ => rfl
        | 4, _ => rfl
        | 5, _ => rfl
        | 6, _ => rfl
        | 7, _ => rfl
        | 8, _ => rfl
        | 9, _ => rfl
      rw [List.dropWhile_cons, List.dropWhile_cons, hp, ih hl.tail]
  rw [this _ (fun d hd => h d (List.mem_reverse.1 hd))]
  rfl

/-- All is told: cut at its beginning it is the number's text. -/
theorem text_done {g0 T N t : Nat} {wr : World} (h : Told g0 T N t 0 wr) (hz : 0 < N) :
    t < T ∧ ∃ ns : List Nat, ns.length = T - t ∧ (∀ i, i < T - t → wr.cell? ⟨g0, t + i, none⟩ = some (.int .u8 ((ns.getD i 0 : Nat) : Int))) ∧
      (ns.map (fun n => UInt8.ofNat n)).dropWhile (· == 48) = txt N := by
  obtain ⟨dl, O, h1, h2, h3, h4, h5, h6⟩ := h
  have hlt : t < T := by
    have : dl ≠ [] := fun e => by subst e; simp [val] at h6; omega
    have := List.length_pos_iff.2 this
    omega
  refine ⟨hlt, O.drop t, by rw [List.length_drop]; omega, fun i hi => ?_, ?_⟩
  · have := h1.cell (t + i) _ (map_getElem? (xs := O) (by omega))
    simp only [List.getD_eq_getElem?_getD, List.getElem?_drop] at this ⊢
    exact this
  · rw [Nat.mul_zero, Nat.add_zero] at h6
    rw [h4, ← List.map_reverse, List.map_map]
    unfold txt D
    rw [if_neg (by omega), h6]
    exact drop_text dl h5

end Go.Proofs.YtodedlnpokagfaaDoor


/-
  A row of digits times a number and more, in its own memory: the mathematics of it; nat.grow and nat.digits.
-/
set_option linter.unusedVariables false
set_option linter.unusedSimpArgs false
namespace Go.Proofs.YtodedlnpokagfaaDoor
open Go.RowKit Rep
namespace Rep

theorem rep_len_mono {b : Nat} (hb : 2 ≤ b) {n m : Nat} (h : n ≤ m) : (rep b n).length ≤ (rep b m).length :=
  (rep_length_le hb n _).2 (Nat.lt_of_le_of_lt h ((rep_length_le hb m _).1 (Nat.le_refl _)))
/-- Digits that are no more than the number's row has are that row. -/
theorem eq_rep_len {b : Nat} (hb : 2 ≤ b) {l : List Nat} {n : Nat} (hd : Dig b l) (hv : val b l = n) (hl : l.length ≤ (rep b n).length) : l = rep b n := by
  have h1 := strip_eq hb hd
  rw [hv] at h1
  have h2 : (strip l).length = (rep b n).length := by rw [h1]
  have h3 := cutAt_le l l.length
  rw [strip_length] at h2
  rw [← h1]
  unfold strip
  rw [List.take_of_length_le (by omega)]

/-- Behind k digits of xs, times t and m more: they are Q's, and c is carried. -/
structure Grow (b t m : Nat) (xs Q : List Nat) (k c : Nat) : Prop where
  len : Q.length = xs.length
  dig : Dig b Q
  low : val b (Q.take k) + b ^ k * c = t * val b (xs.take k) + m
  high : ∀ j, k ≤ j → Q.getD j 0 = xs.getD j 0
  lt : c < t

theorem Grow.start {b t m : Nat} {xs : List Nat} (hx : Dig b xs) (hm : m < t) : Grow b t m xs xs 0 m := ⟨rfl, hx, by simp [val], fun _ _ => rfl, hm⟩
theorem take_succ_val (b : Nat) (l : List Nat) (k : Nat) (h : k < l.length) : val b (l.take (k + 1)) = val b (l.take k) + b ^ k * l.getD k 0 := by
  rw [List.take_succ_eq_append_getElem h, val_snoc, List.length_take, Nat.min_eq_left (by omega), List.getD_eq_getElem?_getD, List.getElem?_eq_getElem h]; rfl
theorem Grow.step {b t m : Nat} {xs Q : List Nat} {k c : Nat} (h : Grow b t m xs Q k c) (hk : k < xs.length) (hb : 2 ≤ b) {n : Nat} (hn : n = Q.getD k 0 * t + c) : Grow b t m xs (Q.set k (n % b)) (k + 1) (n / b) := by
  have hkQ : k < Q.length := by rw [h.len]; exact hk
  have hx : Q.getD k 0 < b := h.dig.getD k (by omega)
  have hlt : n < b * t := by
    have h1 : (Q.getD k 0 + 1) * t ≤ b * t := Nat.mul_le_mul_right t hx
    rw [Nat.add_mul, Nat.one_mul] at h1
    have := h.lt
    omega
  refine ⟨by simpa using h.len, h.dig.set _ _ (Nat.mod_lt _ (by omega)), ?_, fun j hj => ?_, by rw [Nat.div_lt_iff_lt_mul (by omega), Nat.mul_comm]; exact hlt⟩
  · rw [take_succ_val b (Q.set k (n % b)) k (by simpa using hkQ), take_succ_val b xs k hk, List.take_set_of_le (Nat.le_refl k)]
    have e : (Q.set k (n % b)).getD k 0 = n % b := by rw [List.getD_eq_getElem?_getD, List.getElem?_set_self hkQ]; rfl
    rw [e, Nat.pow_succ, ← h.high k (Nat.le_refl k), Nat.mul_add]
    have h2 := h.low
    have h3 := Nat.mod_add_div n b
    have h4 : b ^ k * (n % b) + b ^ k * b * (n / b) = b ^ k * n := by rw [Nat.mul_assoc, ← Nat.mul_add, h3]
    have h5 : b ^ k * n = t * (b ^ k * Q.getD k 0) + b ^ k * c := by
      rw [hn, Nat.mul_add]
      congr 1
      ac_rfl
    omega
  · rw [List.getD_eq_getElem?_getD, List.getElem?_set_ne (by omega), ← List.getD_eq_getElem?_getD]
    exact h.high j (by omega)
theorem Grow.done {b t m : Nat} {xs Q : List Nat} {c : Nat} (h : Grow b t m xs Q xs.length c) (hb : 2 ≤ b) (hx : Dig b xs) (htop : Top xs) : Q ++ rep b c = rep b (t * val b xs + m) := by
  have hl := h.low
  rw [List.take_of_length_le (Nat.le_of_eq h.len), List.take_length] at hl
  have ht : 1 ≤ t := by have := h.lt; omega
  by_cases hc : c = 0
  · subst hc
    rw [rep_zero, List.append_nil]
    refine eq_rep_len hb h.dig (by omega) ?_
    rw [h.len]
    conv => lhs; rw [← rep_val hb hx htop]
    refine rep_len_mono hb ?_
    have : 1 * val b xs ≤ t * val b xs := Nat.mul_le_mul_right _ ht
    omega
  · refine eq_rep hb (h.dig.append (rep_dig (by omega) c)) ?_ ?_
    · have hne : rep b c ≠ [] := fun e => hc ((rep_eq_nil hb).1 e)
      unfold Top
      rw [List.getLast?_append]
      have := rep_top hb c
      unfold Top at this
      rw [List.getLast?_eq_some_getLast hne] at this ⊢
      simpa using this
    · rw [val_append, val_rep hb, h.len]
      exact hl
theorem rep_small {b : Nat} (hb : 2 ≤ b) {c : Nat} (h : c < b) (h0 : c ≠ 0) : rep b c = [c] :=
  (eq_rep hb (Dig.cons h (Dig.nil _)) (by simpa [Top] using h0) (by simp [val])).symm
end Rep

/-- A slice that lies in a block of its own from B on, at its head; or nil. -/
def OwnR (E : TypeId) (f : Nat → Value) (B : Nat) (w : World) (a : Option Addr) (c : Nat) (xs : List Nat) : Prop :=
  c ≤ maxLen ∧ ((a = none ∧ c = 0 ∧ xs = []) ∨ ∃ g, a = some ⟨g, 0, none⟩ ∧ B ≤ g ∧ Row E w g c (xs.map f))
theorem Own.r {B : Nat} {w : World} {a : Option Addr} {c : Nat} {xs : List Nat} (h : Own B w a c xs) : OwnR 71 u32v B w a c xs := h
theorem OwnR.own {B : Nat} {w : World} {a : Option Addr} {c : Nat} {xs : List Nat} (h : OwnR 71 u32v B w a c xs) : Own B w a c xs := h
theorem OwnR.reads {E : TypeId} {f : Nat → Value} {B : Nat} {w : World} {a : Option Addr} {c : Nat} {xs : List Nat} (h : OwnR E f B w a c xs) : Reads w a (xs.map f) := by
  obtain ⟨_, ⟨rfl, rfl, rfl⟩ | ⟨g, rfl, hg, hr⟩⟩ := h
  · exact .inl rfl
  · exact hr.reads0
theorem OwnR.le {E : TypeId} {f : Nat → Value} {B : Nat} {w : World} {a : Option Addr} {c : Nat} {xs : List Nat} (h : OwnR E f B w a c xs) : xs.length ≤ c := by
  obtain ⟨_, ⟨rfl, rfl, rfl⟩ | ⟨g, rfl, hg, hr⟩⟩ := h
  · simp
  · simpa using hr.le
theorem OwnR.row {E : TypeId} {f : Nat → Value} {B : Nat} {w : World} {a : Option Addr} {c : Nat} {xs : List Nat} (h : OwnR E f B w a c xs) (hn : 0 < xs.length) : ∃ g, a = some ⟨g, 0, none⟩ ∧ B ≤ g ∧ Row E w g c (xs.map f) := by
  obtain ⟨_, ⟨rfl, rfl, rfl⟩ | h⟩ := h
  · simp at hn
  · exact h
theorem OwnR.kept {E : TypeId} {f : Nat → Value} {B : Nat} {w w' : World} {a : Option Addr} {c : Nat} {xs : List Nat} (h : OwnR E f B w a c xs) (hb : Below w.heap.size w w') : OwnR E f B w' a c xs := by
  obtain ⟨h1, h2 | ⟨g, rfl, hg, hr⟩⟩ := h
  · exact ⟨h1, .inl h2⟩
  · exact ⟨h1, .inr ⟨g, rfl, hg, hr.kept hb⟩⟩
theorem OwnR.mono {E : TypeId} {f : Nat → Value} {B B' : Nat} {w : World} {a : Option Addr} {c : Nat} {xs : List Nat} (h : OwnR E f B w a c xs) (hB : B' ≤ B) : OwnR E f B' w a c xs := by
  obtain ⟨h1, h2 | ⟨g, rfl, hg, hr⟩⟩ := h
  · exact ⟨h1, .inl h2⟩
  · exact ⟨h1, .inr ⟨g, rfl, Nat.le_trans hB hg, hr⟩⟩
theorem OwnR.grown {E : TypeId} {f : Nat → Value} {B : Nat} {w w' : World} {row : Option Nat} {a : Option Addr} {c : Nat} {xs : List Nat} (h : OwnR E f B w a c xs) (hg : w.grownBy w' row) (hne : a = none ∨ blk a ≠ row) : OwnR E f B w' a c xs := by
  obtain ⟨h1, h2 | ⟨g, rfl, hgB, hr⟩⟩ := h
  · exact ⟨h1, .inl h2⟩
  · rcases hne with hne | hne
    · cases hne
    · exact ⟨h1, .inr ⟨g, rfl, hgB, hr.grown hg hne⟩⟩
theorem OwnR.nil (E : TypeId) (f : Nat → Value) (B : Nat) (w : World) : OwnR E f B w none 0 [] := ⟨by simp [maxLen], .inl ⟨rfl, rfl, rfl⟩⟩
theorem OwnR.owns {E : TypeId} {f : Nat → Value} {B : Nat} {w : World} {a : Option Addr} {c : Nat} {xs : List Nat} (h : OwnR E f B w a c xs) : w.ownsRow B E 1 (.slice a xs.length c) xs.length (xs.map f) := by
  obtain ⟨h1, ⟨rfl, rfl, rfl⟩ | ⟨g, rfl, hg, hr⟩⟩ := h
  · exact ⟨rfl, .inl ⟨rfl, rfl⟩⟩
  · have := hr.own hg h1
    rwa [List.length_map] at this
theorem ownBlock_blk (a : Option Addr) (n c : Nat) : (Value.slice a n c).ownBlock = blk a := by
  cases a <;> rfl

/-- One element more, onto a slice of one's own. -/
theorem wpList_append_one {P : Program} (w : World) {ops : Array Oper} {rest : List Oper} {o : Oper} {a : Act} {Q : Exit → Act → World → Prop} (hgd : o.guard = none) (s x : Operand) (t : TypeId)
    (ho : o.op = .call { callee := .builtin .append, args := #[s, x], argTypes := #[t, t] }) (e : TypeId) (z : Value) (bts : Nat) (ht : P.underlying t = some (.slice e))
    (hi : (P.info? e).map (fun i => (i.zero, i.size, i.bytes)) = some (some z, 1, bts)) (hz1 : z.cells.size = 1)
    (f : Nat → Value) (B : Nat) (aa : Option Addr) (n cap : Nat) (xs : List Nat) (hs : a.eval s = .slice aa n cap) (hown : OwnR e f B w aa cap xs) (hn : xs.length = n)
    (ax : Addr) (c d : Nat) (hx : a.eval x = .slice (some ax) 1 c) (hr : w.cell? ax = some (f d)) (h1 : (f d).oneCell' = true)
    (hmax : n + 1 ≤ maxLen) (hb : (n + 1) * bts ≤ 140737488355328) (hB : B ≤ w.heap.size)
    (h : ∀ g' cap' w', Row e w' g' cap' ((xs ++ [d]).map f) → cap' ≤ maxLen → w.grownBy w' (blk aa) → B ≤ g' → wpList P ops Q rest (a.put o.dst (.slice (some ⟨g', 0, none⟩) (n + 1) cap')) w') : wpList P ops Q (o :: rest) a w := by
  obtain ⟨i, h2, h3, h4, h5⟩ := info_parts hi
  have hw := hown.owns
  rw [hn] at hw
  refine wpList_append_own w hgd s x t ho B e i z 1 bts ht h2 h3 h4 h5 hz1 (by decide) _ n (xs.map f) hs hw ax 1 c [f d] hx rfl ?_ (by simpa using h1) hmax hb hB ?_
  · intro j u hu
    rcases j with _ | j
    · simp only [List.getElem?_cons_zero, Option.some.injEq] at hu
      subst hu
      simpa [Addr.add] using hr
    · simp at hu
  · intro v' w' a1 a2 a3
    rw [ownBlock_blk] at a2
    obtain ⟨hl, ⟨e1, e2⟩ | ⟨g', cap', cur, rfl, hb', hh, hnc, hcm, hcs, htake⟩⟩ := a1
    · omega
    · refine h g' cap' w' ⟨cur, hh, by omega, ?_, ?_⟩ hcm a2 hb'
      · simp; omega
      · rw [List.map_append, List.length_append, List.length_map, hn]
        rw [Nat.mul_one] at htake
        exact htake

/-- At a lie limbs that are behind k places; all else is as it was. -/
def GrowIn (w : World) (E : TypeId) (f : Nat → Value) (b t m B : Nat) (a : Option Addr) (cap : Nat) (xs : List Nat) (k c : Nat) (wr : World) : Prop :=
  ∃ Q : List Nat, OwnR E f B wr a cap Q ∧ Rep.Grow b t m xs Q k c ∧ w.grownBy wr (blk a)

theorem GrowIn.start {w : World} {E : TypeId} {f : Nat → Value} {b t m B cap : Nat} {a : Option Addr} {xs : List Nat} (hr : OwnR E f B w a cap xs) (hx : Dig b xs) (hm : m < t) : GrowIn w E f b t m B a cap xs 0 m w :=
  ⟨xs, hr, Rep.Grow.start hx hm, grown_refl _ _⟩
theorem GrowIn.step {w : World} {E : TypeId} {f : Nat → Value} {b t m B cap : Nat} {a : Option Addr} {xs : List Nat} {k c : Nat} {wr : World} (h : GrowIn w E f b t m B a cap xs k c wr) (hk : k < xs.length) (hb : 2 ≤ b) :
    ∃ g x : Nat, a = some ⟨g, 0, none⟩ ∧ xs.length ≤ cap ∧ x < b ∧ wr.cell? ⟨g, k, none⟩ = some (f x) ∧ wr.frozen? ⟨g, k, none⟩ = false ∧ c < t ∧ x * t + c < b * t ∧
      ∀ n q r : Nat, n = x * t + c → q = n / b → r = n % b → GrowIn w E f b t m B a cap xs (k + 1) q (wr.setCell ⟨g, k, none⟩ (f r)) := by
  obtain ⟨Q, h1, h2, h3⟩ := h
  have hlen : k < Q.length := by rw [h2.len]; exact hk
  have hx : Q.getD k 0 < b := h2.dig.getD k (by omega)
  have hle := h1.le
  rw [h2.len] at hle
  obtain ⟨g, rfl, hg, hr⟩ := h1.row (by omega)
  refine ⟨g, Q.getD k 0, rfl, hle, hx, hr.cell _ _ (map_getElem? hlen), hr.frozen _, h2.lt, ?_, ?_⟩
  · have h4 : (Q.getD k 0 + 1) * t ≤ b * t := Nat.mul_le_mul_right t hx
    rw [Nat.add_mul, Nat.one_mul] at h4
    have := h2.lt
    omega
  · intro n q r hn hq hr'
    subst hq hr'
    refine ⟨Q.set k (n % b), ⟨h1.1, .inr ⟨g, rfl, hg, ?_⟩⟩, h2.step hk hb hn, ⟨h3.os, h3.tape, h3.output, by have := h3.size; simpa [World.setCell] using this, fun j hj hne => ?_⟩⟩
    · have := hr.set k (f (n % b))
      rwa [← List.map_set] at this
    · rw [Below.heap_setCell _ _ _ _ (by simpa [blk] using hne)]
      exact h3.block j hj hne
theorem GrowIn.done {w : World} {E : TypeId} {f : Nat → Value} {b t m B cap : Nat} {a : Option Addr} {xs : List Nat} {c : Nat} {wr : World} (h : GrowIn w E f b t m B a cap xs xs.length c wr) (hb : 2 ≤ b) (hx : Dig b xs) (ht : Top xs) :
    ∃ Q : List Nat, OwnR E f B wr a cap Q ∧ Q.length = xs.length ∧ Q ++ rep b c = rep b (t * val b xs + m) ∧ c < t ∧ w.grownBy wr (blk a) := by
  obtain ⟨Q, h1, h2, h3⟩ := h
  exact ⟨Q, h1, h2.len, h2.done hb hx ht, h2.lt, h3⟩

/-- grow's answer: n, in the memory that it was given or in new one. -/
def GivesGrow (B : Nat) (a : Option Addr) (n : Nat) (w : World) (e : Ending) (w' : World) : Prop :=
  ∃ a' c', e = .returned (.slice a' (L n).length c') ∧ Own B w' a' c' (L n) ∧ w.grownBy w' (blk a)

theorem grownBy_trans_new {w w1 w2 : World} {row : Option Nat} (h : w.grownBy w1 row) (h2 : w1.grownBy w2 row) : w.grownBy w2 row :=
  ⟨h2.os.trans h.os, h2.tape.trans h.tape, h2.output.trans h.output, Nat.le_trans h.size h2.size, fun k hk hne => (h2.block k (Nat.lt_of_lt_of_le hk h.size) hne).trans (h.block k hk hne)⟩
theorem grownBy_alloc (w : World) (o : Obj) (row : Option Nat) : w.grownBy (w.alloc o) row :=
  ⟨rfl, rfl, rfl, by simp, fun k hk _ => Below.heap_alloc w o k hk⟩

theorem grow_full {B : Nat} {a : Option Addr} {n : Nat} {w wr w' : World} {Q : List Nat} {c g' cap' : Nat} (hQ : Q ++ rep 4294967296 c = L n) (hc : c < 4294967296) (h0 : 0 < c) (hg : w.grownBy wr (blk a)) (hr : Row 71 w' g' cap' ((Q ++ [c]).map u32v)) (hcap : cap' ≤ maxLen)
    (hgr : (wr.alloc (.cells #[.int .u32 (c : Int)] 71)).grownBy w' (blk a)) (hB : B ≤ g') : GivesGrow B a n w (.returned (.slice (some ⟨g', 0, none⟩) (Q.length + 1) cap')) w' := by
  have e : Q ++ [c] = L n := by rw [← hQ, Rep.rep_small (by omega) hc (by omega)]
  refine ⟨some ⟨g', 0, none⟩, cap', by rw [← e]; simp, ⟨hcap, .inr ⟨g', rfl, hB, by rw [← e]; exact hr⟩⟩, grownBy_trans_new (grownBy_trans_new hg (grownBy_alloc _ _ _)) hgr⟩

end Go.Proofs.YtodedlnpokagfaaDoor


/-
  nat.digits and nat.Parse.
-/
set_option linter.unusedVariables false
set_option linter.unusedSimpArgs false
namespace Go.Proofs.YtodedlnpokagfaaDoor
open Go.RowKit Rep

def digB (c : UInt8) : Bool := decide (48 ≤ c.toNat) && decide (c.toNat ≤ 57)
/-- Is a text of digits alone, and of as many as may be? -/
def isDigs (l : List UInt8) : Bool := decide (l.length ≠ 0) && decide (l.length ≤ 10000) && l.all digB
/-- The number of a text of digits. -/
def numTxt (l : List UInt8) : Nat := l.foldl (fun n c => 10 * n + (c.toNat - 48)) 0

theorem cast_beq_no {n : Nat} (h : n ≠ 0) : ((n : Int) == 0) = false := by simp; omega
theorem byte_at {s : ByteArray} {k : Nat} (h : k < s.size) : s.data.toList[k]? = some s[k] := by
  cases s with
  | mk d => 
    have hd : k < d.size := h
    rw [Array.getElem?_toList, Array.getElem?_eq_getElem hd]; rfl
theorem size_list (s : ByteArray) : s.data.toList.length = s.size := by cases s; simp [ByteArray.size]

theorem digs_no {l : List UInt8} {k : Nat} {c : UInt8} (h : l[k]? = some c) (hc : digB c = false) : isDigs l = false := by
  have hm := List.mem_of_getElem? h
  have : l.all digB = false := by
    rw [List.all_eq_false]
    exact ⟨c, hm, by simp [hc]⟩
  unfold isDigs
  rw [this, Bool.and_false]
theorem digs_yes {l : List UInt8} (h0 : l.length ≠ 0) (h1 : l.length ≤ 10000) (h : ∀ (j : Nat) (c : UInt8), l[j]? = some c → digB c = true) : isDigs l = true := by
  unfold isDigs
  rw [decide_eq_true h0, decide_eq_true h1, List.all_eq_true.2 (fun c hc => by obtain ⟨j, hj⟩ := List.getElem?_of_mem hc; exact h j c hj)]
  rfl

theorem numTxt_snoc (l : List UInt8) (c : UInt8) : numTxt (l ++ [c]) = 10 * numTxt l + (c.toNat - 48) := by unfold numTxt; rw [List.foldl_append]; rfl
theorem foldl_acc (l : List UInt8) : ∀ acc : Nat, l.foldl (fun n c => 10 * n + (c.toNat - 48)) acc = 10 ^ l.length * acc + numTxt l := by
  induction l with
  | nil => intro acc; simp [numTxt]
  | cons c l ih =>
    intro acc
    have h : numTxt (c :: l) = 10 ^ l.length * (10 * 0 + (c.toNat - 48)) + numTxt l := by unfold numTxt; rw [List.foldl_cons]; exact ih _
    rw [List.foldl_cons, ih, h, List.length_cons, Nat.pow_succ, Nat.mul_add, Nat.mul_add]
    simp only [Nat.mul_zero, Nat.zero_add]
    have : 10 ^ l.length * (10 * acc) = 10 ^ l.length * 10 * acc := by rw [Nat.mul_assoc]
    omega
theorem numTxt_append (l m : List UInt8) : numTxt (l ++ m) = 10 ^ m.length * numTxt l + numTxt m := by
  conv => lhs; unfold numTxt
  rw [List.foldl_append]
  exact foldl_acc m _
theorem numTxt_lt {l : List UInt8} (h : l.all digB = true) : numTxt l < 10 ^ l.length := by
  induction l with
  | nil => simp [numTxt]
  | cons c l ih =>
    simp only [List.all_cons, Bool.and_eq_true] at h
    have h1 := ih h.2
    have h2 : numTxt (c :: l) = 10 ^ l.length * (c.toNat - 48) + numTxt l := by
      have := foldl_acc l (10 * 0 + (c.toNat - 48))
      unfold numTxt at this ⊢
      rw [List.foldl_cons, this, Nat.mul_zero, Nat.zero_add]
    have h3 : c.toNat - 48 ≤ 9 := by
      have := h.1
      unfold digB at this
      simp at this
      omega
    have h4 : 10 ^ l.length * (c.toNat - 48) ≤ 10 ^ l.length * 9 := Nat.mul_le_mul_left _ h3
    rw [h2, List.length_cons, Nat.pow_succ]
    omega

/-- What Parse gives, and how it leaves the bench. -/
def GivesParse (b m : Nat) (o : Bool) (l : List UInt8) (w : World) (e : Ending) (w' : World) : Prop :=
  if (!o && isDigs l) = true then
    (if (L (numTxt l)).length ≤ m then ∃ a c, e = .returned (.tuple #[.slice a (L (numTxt l)).length c, .bool true]) ∧ NumAt w' a c (numTxt l) ∧ Bench w' b m o ∧ Below w.heap.size w w'
      else e = .returned (.tuple #[.slice none 0 0, .bool false]) ∧ Bench w' b m true ∧ w.grownBy w' (some b))
  else e = .returned (.tuple #[.slice none 0 0, .bool false]) ∧ w' = w

/-- What is read already: p; t is left. -/
def ParseIn (w : World) (b m : Nat) (s t : ByteArray) (xv : Value) (wr : World) : Prop :=
  ∃ (p : List UInt8) (a : Option Addr) (c : Nat), s.data.toList = p ++ t.data.toList ∧ xv = .slice a (L (numTxt p)).length c ∧ (numTxt p = 0 ∨ t.size % 9 = 0) ∧ (L (numTxt p)).length ≤ m ∧ Own w.heap.size wr a c (L (numTxt p)) ∧ Below w.heap.size w wr ∧ Bench wr b m false

theorem L_txt_len {l : List UInt8} (h : l.all digB = true) : (L (numTxt l)).length ≤ l.length :=
  (L_len _ _).2 (Nat.lt_of_lt_of_le (numTxt_lt h) (Nat.pow_le_pow_left (by omega) _))
theorem extract_take (t : ByteArray) (n : Nat) (h : n ≤ t.size) : (t.extract 0 n).data.toList = t.data.toList.take n := by
  rw [ByteArray.data_extract]; simp
theorem extract_drop (t : ByteArray) (n : Nat) (h : n ≤ t.size) : (t.extract n t.size).data.toList = t.data.toList.drop n := by
  rw [ByteArray.data_extract]
  have := size_list t
  rw [Array.toList_extract, List.extract_eq_take_drop]
  exact List.take_of_length_le (by rw [List.length_drop]; omega)
theorem GivesParse.great {b m : Nat} {l : List UInt8} {w w' : World} (hd : isDigs l = true) (h : m < (L (numTxt l)).length) (hb : Bench w' b m true) (hg : w.grownBy w' (some b)) :
    GivesParse b m false l w (.returned (.tuple #[.slice none 0 0, .bool false])) w' := by
  unfold GivesParse
  rw [if_pos (by rw [hd]; rfl), if_neg (by omega)]
  exact ⟨rfl, hb, hg⟩
theorem GivesParse.fits {b m : Nat} {l : List UInt8} {w w' : World} {a : Option Addr} {c : Nat} (hd : isDigs l = true) (h : (L (numTxt l)).length ≤ m) (ho : Own w.heap.size w' a c (L (numTxt l))) (hb : Below w.heap.size w w') (hbe : Bench w' b m false) :
    GivesParse b m false l w (.returned (.tuple #[.slice a (L (numTxt l)).length c, .bool true])) w' := by
  unfold GivesParse
  rw [if_pos (by rw [hd]; rfl), if_pos h]
  exact ⟨a, c, rfl, ho.num, hbe, hb⟩

end Go.Proofs.YtodedlnpokagfaaDoor


/-
  What laws are handed; benches that are over.
-/
set_option linter.unusedVariables false
set_option linter.unusedSimpArgs false
namespace Go.Proofs.YtodedlnpokagfaaDoor
open Go.RowKit Rep

def sliceV (t : Option Addr × Nat × Nat) : Value := .slice t.1 t.2.1 t.2.2

theorem GivesBench.bench {m : Nat} {w : World} : Bench (w.alloc (.cells #[.int .i64 (m : Int), .bool false] 100)) w.heap.size m false := heap_alloc_new w _

theorem limbs2 (w : World) (x y : Nat) (hx : x < 4294967296) (hy : y < 4294967296) : NumIn (w.alloc (.cells #[.int .u32 (x : Int), .int .u32 (y : Int)] 71)) (some ⟨w.heap.size, 0, none⟩) 2 [x, y] :=
  ⟨Lim.two hx hy, by simpa [u32v] using (Row.new (E := 71) w #[.int .u32 (x : Int), .int .u32 (y : Int)]).reads0, by simp, by simp [maxLen], by simp⟩

/-- Limbs that a law is handed. -/
structure Handed (w : World) (a : Option Addr) (c : Nat) (xs : List Nat) : Prop where
  lim : Lim xs
  reads : Reads w a (xs.map u32v)
  le : xs.length ≤ c
  cap : c ≤ maxLen
theorem Handed.inn {w : World} {a : Option Addr} {c : Nat} {xs : List Nat} (h : Handed w a c xs) (hl : xs.length ≤ 12) : NumIn w a c xs := ⟨h.lim, h.reads, h.le, h.cap, by omega⟩
theorem Handed.kept {w w' : World} {a : Option Addr} {c : Nat} {xs : List Nat} (h : Handed w a c xs) (hb : Below w.heap.size w w') : Handed w' a c xs := ⟨h.lim, h.reads.kept hb, h.le, h.cap⟩
/-- A law holds: true, and what there was is as it was. -/
def Holds (w : World) (e : Ending) (w' : World) : Prop := e = .returned (.bool true) ∧ Below w.heap.size w w'
set_option maxRecDepth 100000 in
set_option maxHeartbeats 400000 in
theorem Gcd_over (b m : Nat) (vx vy : Value) (n : Nat) (w : World) (h : Bench w b m true) :
    Calls Tryd.prog 53 #[.pointer (some ⟨b, 0, none⟩), vx, vy] w (GivesOut b m true n w) := by
  have h1 := h.c1
  have HG := Lib.hid (GivesOut.gone (n := n) h)
  clear h
  go_enter Tryd.func53, Tryd.ntmps53
  go_wp2_with fail
  go_ret
  exact HG.out

theorem limbs1 (w : World) (x : Nat) (hx : x < 4294967296) : NumIn (w.alloc (.cells #[.int .u32 (x : Int)] 71)) (some ⟨w.heap.size, 0, none⟩) 1 [x] :=
  ⟨Dig.cons hx (Dig.nil _), by simpa [u32v] using (Row.new (E := 71) w #[.int .u32 (x : Int)]).reads0, by simp, by simp [maxLen], by simp⟩

theorem NumIn.bench {w w' : World} {b m : Nat} {o : Bool} {a : Option Addr} {c : Nat} {xs : List Nat} (h : NumIn w a c xs) (hb : Bench w b m o) (hg : w.grownBy w' (some b)) : NumIn w' a c xs :=
  ⟨h.lim, h.reads.grown hg (hb.apart h.reads), h.le, h.cap, h.len⟩
theorem GivesOut.gone' {b m n : Nat} {w w' : World} {e : Ending} (h : GivesOut b m true n w e w') : ∃ a c, e = .returned (.slice a 0 c) ∧ Bench w' b m true ∧ w.grownBy w' (some b) := by
  obtain ⟨a, c, rfl, hat, hb, hg⟩ := h
  have h0 : outN m true n = 0 := by simp [outN, outO]
  exact ⟨a, c, by rw [h0]; rfl, by simpa [outO] using hb, hg⟩

theorem two_reads (w : World) (t u : Option Addr × Nat × Nat) : Reads (w.alloc (.cells #[sliceV t, sliceV u] 32)) (some ⟨w.heap.size, 0, none⟩) ([t, u].map sliceV) := by
  simpa using (Row.new (E := 32) w #[sliceV t, sliceV u]).reads0

end Go.Proofs.YtodedlnpokagfaaDoor


/-
  nat.Right; the document's Same, Cut.
-/
set_option linter.unusedVariables false
set_option linter.unusedSimpArgs false
namespace Go.Proofs.YtodedlnpokagfaaDoor
open Go.RowKit Rep

/-- Have limbs no nought at their end? -/
def topB (xs : List Nat) : Bool := decide (xs.length = 0) || decide (xs.getD (xs.length - 1) 0 ≠ 0)

set_option maxRecDepth 100000 in
set_option maxHeartbeats 1000000 in
theorem Right_any (a : Option Addr) (c : Nat) (xs : List Nat) (w : World) (hx : Handed w a c xs) : Calls Tryd.prog 45 #[.slice a xs.length c] w (Gives (.bool (topB xs)) w) := by
  have hle := hx.le
  have hcap := hx.cap
  have hr := hx.reads
  clear hx
  unfold maxLen at hcap
  rcases Nat.eq_zero_or_pos xs.length with h0 | h0
  · have e : topB xs = true := by unfold topB; rw [h0]; rfl
    rw [e, h0]
    clear e hr
    go_enter Tryd.func45, Tryd.ntmps45
    go_wp2_with fail
    go_ret
    exact Gives.mk' rfl
  · obtain ⟨g, off, rfl, hg, hcell⟩ := hr.open' (by rw [List.length_map]; exact h0)
    have hck := hcell (xs.length - 1) _ (map_getElem? (xs := xs) (by omega))
    have hz : ((xs.length : Int) == 0) = false := cast_beq_no (by omega)
    have HT : Hid (topB xs = decide (xs.getD (xs.length - 1) 0 ≠ 0)) := Lib.hid (by unfold topB; rw [decide_eq_false (p := xs.length = 0) (by omega), Bool.false_or])
    clear hcell hr
    unfold u32v at hck
    generalize xs.getD (xs.length - 1) 0 = x at *
    rw [HT.out]
    have hi : ((xs.length : Int) - 1).toNat = xs.length - 1 := by omega
    go_enter Tryd.func45, Tryd.ntmps45
    go_wp2_with fail
    go_ret
    refine Gives.mk' (congrArg Value.bool ?_)
    by_cases h : x = 0
    · subst h; rfl
    · rw [decide_eq_true h]; simpa using h

set_option maxRecDepth 100000 in
set_option maxHeartbeats 1000000 in
theorem Same_any (a b : Option Addr) (c d : Nat) (xs ys : List Nat) (w : World) (ha : Reads w a (xs.map u32v)) (hb : Reads w b (ys.map u32v)) (hla : xs.length ≤ 1073741824) :
    Calls Tryd.prog 44 #[.slice a xs.length c, .slice b ys.length d] w (Draws (.bool (decide (xs = ys))) w) := by
  by_cases hl : xs.length = ys.length
  · go_enter Tryd.func44, Tryd.ntmps44
    have hne : ((xs.length : Int) != (ys.length : Int)) = false := by rw [hl]; simp
    go_wp2_with fail
    go_loopw [5] (fun i wr => ∃ k n : Nat, wr = w.drewN n ∧ k ≤ xs.length ∧ i = .int .i64 k ∧ xs.take k = ys.take k) (fun i _ => xs.length - (intOf i).toNat)
    case atStart => exact ⟨0, 0, rfl, Nat.zero_le _, rfl, rfl⟩
    case round =>
      obtain ⟨k, n, hw, hk, rfl, he⟩ := hrel
      have HE := Lib.hid he
      have ha' : Reads wr a (xs.map u32v) := by rw [hw]; exact ha
      have hb' : Reads wr b (ys.map u32v) := by rw [hw]; exact hb
      have HW := Lib.hid hw
      clear he hw
      by_cases hlt : k < xs.length
      · obtain ⟨g1, o1, rfl, hg1, hc1⟩ := ha'.open' (by rw [List.length_map]; omega)
        obtain ⟨g2, o2, rfl, hg2, hc2⟩ := hb'.open' (by rw [List.length_map]; omega)
        have hx := hc1 k _ (map_getElem? hlt)
        have hy := hc2 k _ (map_getElem? (xs := ys) (by omega))
        clear hc1 hc2 ha hb
        unfold u32v at hx hy
        have HX : Hid (xs[k]? = some (xs.getD k 0)) := Lib.hid (by rw [List.getElem?_eq_getElem hlt, getD_lt hlt])
        have HY : Hid (ys[k]? = some (ys.getD k 0)) := Lib.hid (by rw [List.getElem?_eq_getElem (by omega), getD_lt (by omega)])
        generalize xs.getD k 0 = x at *
        generalize ys.getD k 0 = y at *
        have hkx : (k : Int) < (xs.length : Int) := by omega
        have hky : (k : Int) < (ys.length : Int) := by omega
        by_cases hxy : x = y
        · subst hxy
          have hxx : ((x : Int) != (x : Int)) = false := by simp
          go_wp2_with fail
          go_quiet (fail)
          go_wp2_with fail
          go_roundw
          case rel => exact ⟨k + 1, n + nq, by rw [HW.out]; exact drewN_add _ _ _, by omega, by go_num, by rw [List.take_add_one, List.take_add_one, HE.out, HX.out, HY.out]⟩
          case measure => simp [intOf]; omega
        · have hxy' : ((x : Int) != (y : Int)) = true := by simp; omega
          have HN : Hid (decide (xs = ys) = false) := Lib.hid (decide_eq_false fun e => hxy (by have h1 := HX.out; rw [e, HY.out] at h1; exact (Option.some.inj h1).symm))
          rw [HN.out]
          go_wp2_with fail
          go_quiet (fail)
          go_wp2_with fail
          go_ret
          exact ⟨rfl, n + nq, by rw [HW.out]; exact drewN_add _ _ _⟩
      · obtain rfl : k = xs.length := by omega
        have HN : Hid (decide (xs = ys) = true) := Lib.hid (decide_eq_true (by have := HE.out; rwa [List.take_length, List.take_of_length_le (by omega)] at this))
        go_wp2_with fail
        go_ret
        exact ⟨by rw [HN.out]; rfl, n, HW.out⟩
  · have e : decide (xs = ys) = false := decide_eq_false fun e => hl (by rw [e])
    rw [e]
    clear e ha hb
    have hne : ((xs.length : Int) != (ys.length : Int)) = true := by simp; omega
    go_enter Tryd.func44, Tryd.ntmps44
    go_wp2_with fail
    go_ret
    exact ⟨rfl, 0, rfl⟩

set_option maxRecDepth 100000 in
set_option maxHeartbeats 1000000 in
theorem Cut_any (a : Option Addr) (c : Nat) (xs : List Nat) (w : World) (hr : Reads w a (xs.map i64v)) (hle : xs.length ≤ c) (hcap : c ≤ maxLen) :
    Calls Tryd.prog 65 #[.slice a xs.length c] w (Gives (.slice a (strip xs).length c) w) := by
  unfold maxLen at hcap
  rw [strip_length]
  go_enter Tryd.func65, Tryd.ntmps65
  go_wp2_with fail
  go_loop [3] (fun i => ∃ k : Nat, k ≤ xs.length ∧ i = .int .i64 k ∧ cutAt xs k = cutAt xs xs.length) (fun i => (intOf i).toNat)
  case atStart => exact ⟨xs.length, Nat.le_refl _, rfl, rfl⟩
  case round =>
    obtain ⟨k, hk, rfl, he⟩ := hrel
    have HE := Lib.hid he
    clear he
    cases k with
    | zero =>
      go_wp2_with fail
      go_ret
      exact Gives.mk' (by rw [← HE.out]; rfl)
    | succ k =>
      obtain ⟨g, off, rfl, hg, hcell⟩ := hr.open' (by rw [List.length_map]; omega)
      have hck := hcell k _ (map_getElem? (by omega))
      clear hcell
      unfold i64v at hck
      have HC : Hid (cutAt xs (k + 1) = if xs.getD k 0 = 0 then cutAt xs k else k + 1) := rfl
      generalize xs.getD k 0 = d at hck HC
      by_cases h0 : d = 0
      · subst h0
        go_wp2_with fail
        go_round
        case rel => exact ⟨k, by omega, by go_num, by rw [← HE.out, HC.out, if_pos rfl]⟩
        case measure => simp [intOf]
      · have hb : (((d : Nat) : Int) == 0) = false := cast_beq_no h0
        go_wp2_with fail
        go_ret
        exact Gives.mk' (by rw [← HE.out, HC.out, if_neg h0]; go_num)
end Go.Proofs.YtodedlnpokagfaaDoor


/-
  Long division's steps: nat.giveBack, nat.takeTimes.
-/
set_option linter.unusedVariables false
set_option linter.unusedSimpArgs false
namespace Go.Proofs.YtodedlnpokagfaaDoor
open Go.RowKit Rep

/-- In g lie A, P and Z, one behind the other. -/
def PartAt (w : World) (g cap : Nat) (A P Z : List Nat) : Prop := Row 71 w g cap ((A ++ P ++ Z).map u32v)
theorem PartAt.cell {w : World} {g cap : Nat} {A P Z : List Nat} (h : PartAt w g cap A P Z) {j : Nat} (hj : j < P.length) : w.cell? ⟨g, A.length + j, none⟩ = some (.int .u32 (P.getD j 0 : Nat)) := by
  have h1 := Row.cell h (A.length + j) (u32v (P.getD j 0)) (by
    rw [List.map_append, List.map_append, List.append_assoc, List.getElem?_append_right (by simp), List.length_map, Nat.add_sub_cancel_left, List.getElem?_append_left (by simpa using hj), List.getElem?_map, List.getElem?_eq_getElem hj, getD_lt hj]
    rfl)
  exact h1
theorem PartAt.set {w : World} {g cap : Nat} {A P Z : List Nat} (h : PartAt w g cap A P Z) {j : Nat} (hj : j < P.length) (v : Nat) : PartAt (w.setCell ⟨g, A.length + j, none⟩ (u32v v)) g cap A (P.set j v) Z := by
  have h1 := Row.set h (A.length + j) (u32v v)
  unfold PartAt
  rwa [← List.map_set, List.append_assoc, List.set_append_right _ _ (by omega), Nat.add_sub_cancel_left, List.set_append_left _ _ hj, ← List.append_assoc] at h1
theorem PartAt.free {w : World} {g cap : Nat} {A P Z : List Nat} (h : PartAt w g cap A P Z) (i : Nat) : w.frozen? ⟨g, i, none⟩ = false := Row.frozen h i

theorem grownBy_set {w wr : World} {g i : Nat} {u : Value} (h : w.grownBy wr (some g)) : w.grownBy (wr.setCell ⟨g, i, none⟩ u) (some g) :=
  ⟨h.os, h.tape, h.output, by have := h.size; simpa [World.setCell] using this, fun k hk hne => by
    rw [Below.heap_setCell _ _ _ _ (by simpa using hne)]; exact h.block k hk hne⟩

/-- Behind k places of giveBack. -/
def GiveIn (w : World) (g cap : Nat) (A P Z ys : List Nat) (k c : Nat) (wr : World) : Prop :=
  ∃ Q : List Nat, PartAt wr g cap A Q Z ∧ Q.length = P.length ∧ Lim Q ∧ V (Q.take k) + c * 4294967296 ^ k = V (P.take k) + V (ys.take k) ∧ (∀ j, k ≤ j → Q.getD j 0 = P.getD j 0) ∧ w.grownBy wr (some g)

theorem GiveIn.step {w wr : World} {g cap k c : Nat} {A P Z ys : List Nat} (h : GiveIn w g cap A P Z ys k c wr) (hk : k < P.length) (hky : k < ys.length) :
    ∃ x : Nat, x < 4294967296 ∧ wr.cell? ⟨g, A.length + k, none⟩ = some (.int .u32 (x : Int)) ∧ wr.frozen? ⟨g, A.length + k, none⟩ = false ∧ w.grownBy wr (some g) ∧
      ∀ T : Nat, T = c + (x + ys.getD k 0) → GiveIn w g cap A P Z ys (k + 1) (T / 4294967296) (wr.setCell ⟨g, A.length + k, none⟩ (.int .u32 ((T % 4294967296 : Nat) : Int))) := by
  obtain ⟨Q, h1, h2, h3, h4, h5, h6⟩ := h
  have hkQ : k < Q.length := by omega
  refine ⟨Q.getD k 0, h3.getD _ (by omega), h1.cell hkQ, h1.free _, h6, fun T hT => ?_⟩
  refine ⟨Q.set k (T % 4294967296), h1.set hkQ _, by simpa using h2, h3.set _ _ (Nat.mod_lt _ (by omega)), ?_, fun j hj => ?_, grownBy_set h6⟩
  · unfold V at h4 ⊢
    rw [take_succ_val _ (Q.set k _) k (by simpa using hkQ), take_succ_val _ P k hk, take_succ_val _ ys k hky, List.take_set_of_le (Nat.le_refl k), getD_set_self hkQ, ← h5 k (Nat.le_refl k), Nat.pow_succ]
    have h7 := Nat.mod_add_div T 4294967296
    have h8 : 4294967296 ^ k * (T % 4294967296) + T / 4294967296 * (4294967296 ^ k * 4294967296) = 4294967296 ^ k * T := by
      conv => rhs; rw [← h7, Nat.mul_add]
      congr 1
      ac_rfl
    have h9 : 4294967296 ^ k * T = c * 4294967296 ^ k + 4294967296 ^ k * Q.getD k 0 + 4294967296 ^ k * ys.getD k 0 := by
      rw [hT, Nat.mul_add, Nat.mul_add, Nat.mul_comm c]
      omega
    omega
  · rw [Rep.getD_set_ne (by omega)]
    exact h5 j (by omega)

/-- What giveBack does. -/
def GivesBack (g cap : Nat) (A P Z : List Nat) (y n : Nat) (w : World) (w' : World) : Prop :=
  ∃ Q : List Nat, PartAt w' g cap A Q Z ∧ Q.length = P.length ∧ Lim Q ∧ V Q = (V P + y) % 4294967296 ^ (n + 1) ∧ w.grownBy w' (some g)

theorem give_done {w wr : World} {g cap n c : Nat} {A P Z ys : List Nat} (h : GiveIn w g cap A P Z ys n c wr) (hP : P.length = n + 1) (hy : ys.length = n) :
    ∃ x : Nat, x < 4294967296 ∧ wr.cell? ⟨g, A.length + n, none⟩ = some (.int .u32 (x : Int)) ∧ wr.frozen? ⟨g, A.length + n, none⟩ = false ∧
      ∀ z : Nat, z = (x + c) % 4294967296 → GivesBack g cap A P Z (V ys) n w (wr.setCell ⟨g, A.length + n, none⟩ (.int .u32 (z : Int))) := by
  obtain ⟨Q, h1, h2, h3, h4, h5, h6⟩ := h
  have hkQ : n < Q.length := by omega
  refine ⟨Q.getD n 0, h3.getD _ (by omega), h1.cell hkQ, h1.free _, fun z hz => ?_⟩
  have hzl : z < 4294967296 := by rw [hz]; exact Nat.mod_lt _ (by omega)
  refine ⟨Q.set n z, h1.set hkQ _, by simpa using h2, h3.set _ _ hzl, ?_, grownBy_set h6⟩
  have e1 : V (Q.set n z) = V (Q.take n) + 4294967296 ^ n * z := by
    unfold V
    conv => lhs; rw [← List.take_length (l := Q.set n z), List.length_set, h2, hP]
    rw [take_succ_val _ _ n (by simpa using hkQ), List.take_set_of_le (Nat.le_refl n), getD_set_self hkQ]
  have e2 : V P = V (P.take n) + 4294967296 ^ n * Q.getD n 0 := by
    unfold V
    conv => lhs; rw [← List.take_length (l := P), hP]
    rw [take_succ_val _ _ n (by omega), h5 n (Nat.le_refl n)]
  have h7 : V (ys.take n) = V ys := by rw [List.take_of_length_le (by omega)]
  have h8 : V (Q.set n z) < 4294967296 ^ (n + 1) := by
    have := val_lt (h3.set n z hzl)
    rw [List.length_set, h2, hP] at this
    exact this
  have h9 := Nat.mod_add_div (Q.getD n 0 + c) 4294967296
  rw [← hz] at h9
  have h10 : V P + V ys = V (Q.set n z) + 4294967296 ^ (n + 1) * ((Q.getD n 0 + c) / 4294967296) := by
    rw [e1, e2, ← h7, Nat.pow_succ]
    have h11 : 4294967296 ^ n * z + 4294967296 ^ n * 4294967296 * ((Q.getD n 0 + c) / 4294967296) = 4294967296 ^ n * (Q.getD n 0 + c) := by
      conv => rhs; rw [← h9, Nat.mul_add, ← Nat.mul_assoc]
    rw [Nat.mul_add] at h11
    have h12 : c * 4294967296 ^ n = 4294967296 ^ n * c := Nat.mul_comm _ _
    omega
  rw [h10, Nat.add_mul_mod_self_left, Nat.mod_eq_of_lt h8]

set_option maxRecDepth 100000 in
set_option maxHeartbeats 1000000 in
theorem giveBack_any (g cap c1 cy : Nat) (A P Z ys : List Nat) (ay : Option Addr) (w : World) (hp : PartAt w g cap A P Z) (hl : Lim P) (hlen : P.length = ys.length + 1) (hc1 : P.length ≤ c1) (hy : Lim ys) (ry : Reads w ay (ys.map u32v))
    (hne : ys.map u32v = [] ∨ ∀ g' off, ay = some ⟨g', off, none⟩ → some g' ≠ some g) (hb : ys.length ≤ 1073741824) :
    Calls Tryd.prog 92 #[.slice (some ⟨g, A.length, none⟩) P.length c1, .slice ay ys.length cy] w fun e w' => e = .returned (.tuple #[]) ∧ GivesBack g cap A P Z (V ys) ys.length w w' := by
  have HS : GiveIn w g cap A P Z ys 0 0 w := ⟨P, hp, rfl, hl, by simp [V, Rep.val], fun _ _ => rfl, grown_refl _ _⟩
  clear hp
  go_enter Tryd.func92, Tryd.ntmps92
  go_wp2_with fail
  go_loopw [4, 9] (fun cv iv wr => ∃ k c : Nat, k ≤ ys.length ∧ c ≤ 1 ∧ cv = .int .u64 c ∧ iv = .int .i64 k ∧ GiveIn w g cap A P Z ys k c wr) (fun _ iv _ => ys.length - (intOf iv).toNat)
  case atStart => exact ⟨0, 0, by omega, by omega, rfl, rfl, HS⟩
  case round =>
    obtain ⟨k, c, hk, hc, rfl, rfl, hin⟩ := hrel
    clear HS
    by_cases hlt : k < ys.length
    · obtain ⟨x, hx, hcx, hfx, hgr, hnext⟩ := hin.step (by omega) hlt
      have hY : ys.getD k 0 < 4294967296 := hy.getD k (by omega)
      obtain ⟨g2, off, rfl, hg2, hcell⟩ := (ry.grown hgr hne).open' (by rw [List.length_map]; omega)
      have hck := hcell k _ (map_getElem? (xs := ys) hlt)
      unfold u32v at hck
      clear hcell hin hgr
      generalize ys.getD k 0 = y at *
      obtain ⟨T, hT⟩ : ∃ T, T = c + (x + y) := ⟨_, rfl⟩
      have HN := Lib.hid (hnext T hT)
      have HTe : Hid ((c : Int) + ((x : Int) + (y : Int)) = (T : Int)) := Lib.hid (by omega)
      have hTc : T / 4294967296 ≤ 1 := by omega
      clear hnext hT
      have hkP : (k : Int) < (P.length : Int) := by omega
      go_wp2_with fail
      rw [HTe.out]
      go_roundw
      case rel => exact ⟨k + 1, T / 4294967296, by omega, hTc, by go_num, by go_num, HN.out⟩
      case measure => simp [intOf]; omega
    · obtain rfl : k = ys.length := by omega
      obtain ⟨x, hx, hcx, hfx, hfin⟩ := give_done hin hlen rfl
      have HF := Lib.hid hfin
      clear hin hfin
      have hkP : (ys.length : Int) < (P.length : Int) := by omega
      go_wp2_with fail
      go_end0
      exact ⟨rfl, HF.out _ rfl⟩

/-- Behind k places of takeTimes. -/
def TkIn (w : World) (g cap : Nat) (A P Z ys : List Nat) (t k c : Nat) (wr : World) : Prop :=
  ∃ Q : List Nat, PartAt wr g cap A Q Z ∧ Q.length = P.length ∧ Lim Q ∧ V (Q.take k) + t * V (ys.take k) = V (P.take k) + c * 4294967296 ^ k ∧ (∀ j, k ≤ j → Q.getD j 0 = P.getD j 0) ∧ w.grownBy wr (some g)

theorem TkIn.bound {w wr : World} {g cap t k c : Nat} {A P Z ys : List Nat} (h : TkIn w g cap A P Z ys t k c wr) (hy : Lim ys) (ht : t < 4294967296) : c < 4294967296 := by
  obtain ⟨Q, h1, h2, h3, h4, h5, h6⟩ := h
  have a1 : V (Q.take k) < 4294967296 ^ k := Nat.lt_of_lt_of_le (val_lt (h3.take k)) (Nat.pow_le_pow_right (by omega) (by rw [List.length_take]; omega))
  have a2 : V (ys.take k) < 4294967296 ^ k := Nat.lt_of_lt_of_le (val_lt (hy.take k)) (Nat.pow_le_pow_right (by omega) (by rw [List.length_take]; omega))
  have a3 : t * V (ys.take k) ≤ 4294967295 * 4294967296 ^ k := Nat.mul_le_mul (by omega) (Nat.le_of_lt a2)
  have a4 : c * 4294967296 ^ k < 4294967296 * 4294967296 ^ k := by omega
  exact Nat.lt_of_mul_lt_mul_right a4

theorem TkIn.step {w wr : World} {g cap k c t : Nat} {A P Z ys : List Nat} (h : TkIn w g cap A P Z ys t k c wr) (hk : k < P.length) (hky : k < ys.length) :
    ∃ x : Nat, x < 4294967296 ∧ wr.cell? ⟨g, A.length + k, none⟩ = some (.int .u32 (x : Int)) ∧ wr.frozen? ⟨g, A.length + k, none⟩ = false ∧ w.grownBy wr (some g) ∧
      ∀ z c' : Nat, z < 4294967296 → c + ys.getD k 0 * t + z = x + c' * 4294967296 → TkIn w g cap A P Z ys t (k + 1) c' (wr.setCell ⟨g, A.length + k, none⟩ (.int .u32 (z : Int))) := by
  obtain ⟨Q, h1, h2, h3, h4, h5, h6⟩ := h
  have hkQ : k < Q.length := by omega
  refine ⟨Q.getD k 0, h3.getD _ (by omega), h1.cell hkQ, h1.free _, h6, fun z c' hz he => ?_⟩
  refine ⟨Q.set k z, h1.set hkQ _, by simpa using h2, h3.set _ _ hz, ?_, fun j hj => ?_, grownBy_set h6⟩
  · unfold V at h4 ⊢
    rw [take_succ_val _ (Q.set k _) k (by simpa using hkQ), take_succ_val _ P k hk, take_succ_val _ ys k hky, List.take_set_of_le (Nat.le_refl k), getD_set_self hkQ, ← h5 k (Nat.le_refl k), Nat.pow_succ]
    have h7 : 4294967296 ^ k * (c + ys.getD k 0 * t + z) = 4294967296 ^ k * (Q.getD k 0 + c' * 4294967296) := by rw [he]
    simp only [Nat.mul_add] at h7 ⊢
    have e1 : 4294967296 ^ k * (ys.getD k 0 * t) = t * (4294967296 ^ k * ys.getD k 0) := by ac_rfl
    have e2 : 4294967296 ^ k * (c' * 4294967296) = c' * (4294967296 ^ k * 4294967296) := by ac_rfl
    have e3 : c * 4294967296 ^ k = 4294967296 ^ k * c := Nat.mul_comm _ _
    omega
  · rw [Rep.getD_set_ne (by omega)]
    exact h5 j (by omega)

theorem tk_done {w wr : World} {g cap n c t : Nat} {A P Z ys : List Nat} (h : TkIn w g cap A P Z ys t n c wr) (hP : P.length = n + 1) (hy : ys.length = n) :
    ∃ x : Nat, x < 4294967296 ∧ wr.cell? ⟨g, A.length + n, none⟩ = some (.int .u32 (x : Int)) ∧ wr.frozen? ⟨g, A.length + n, none⟩ = false ∧
      ∀ z b : Nat, z < 4294967296 → z + c = x + b * 4294967296 → ∃ Q : List Nat, PartAt (wr.setCell ⟨g, A.length + n, none⟩ (.int .u32 (z : Int))) g cap A Q Z ∧ Q.length = P.length ∧ Lim Q ∧ V Q + t * V ys = V P + b * 4294967296 ^ (n + 1) ∧
        w.grownBy (wr.setCell ⟨g, A.length + n, none⟩ (.int .u32 (z : Int))) (some g) := by
  obtain ⟨Q, h1, h2, h3, h4, h5, h6⟩ := h
  have hkQ : n < Q.length := by omega
  refine ⟨Q.getD n 0, h3.getD _ (by omega), h1.cell hkQ, h1.free _, fun z b hzl he => ?_⟩
  refine ⟨Q.set n z, h1.set hkQ _, by simpa using h2, h3.set _ _ hzl, ?_, grownBy_set h6⟩
  have e1 : V (Q.set n z) = V (Q.take n) + 4294967296 ^ n * z := by
    unfold V
    conv => lhs; rw [← List.take_length (l := Q.set n z), List.length_set, h2, hP]
    rw [take_succ_val _ _ n (by simpa using hkQ), List.take_set_of_le (Nat.le_refl n), getD_set_self hkQ]
  have e2 : V P = V (P.take n) + 4294967296 ^ n * Q.getD n 0 := by
    unfold V
    conv => lhs; rw [← List.take_length (l := P), hP]
    rw [take_succ_val _ _ n (by omega), h5 n (Nat.le_refl n)]
  have h7 : V (ys.take n) = V ys := by rw [List.take_of_length_le (by omega)]
  rw [h7] at h4
  have h8 : 4294967296 ^ n * (z + c) = 4294967296 ^ n * (Q.getD n 0 + b * 4294967296) := by rw [he]
  simp only [Nat.mul_add] at h8
  have h9 : 4294967296 ^ n * (b * 4294967296) = b * 4294967296 ^ (n + 1) := by rw [Nat.pow_succ]; ac_rfl
  have h10 : c * 4294967296 ^ n = 4294967296 ^ n * c := Nat.mul_comm _ _
  rw [e1, e2]
  omega

/-- Once, of what is so many times in it, and what is left. -/
def TakesTimes (g cap : Nat) (A P Z : List Nat) (y : Nat) (w : World) (e : Ending) (w' : World) : Prop :=
  e = .returned (.int .u32 ((V P / y : Nat) : Int)) ∧ ∃ Q : List Nat, PartAt w' g cap A Q Z ∧ Q.length = P.length ∧ Lim Q ∧ V Q = V P % y ∧ w.grownBy w' (some g)

theorem times_exact {x y t q : Nat} (h : q + t * y = x) (hy : 0 < y) (h1 : x / y ≤ t) : t = x / y ∧ q = x % y := by
  have h2 := Nat.div_add_mod x y
  have h3 : t ≤ x / y := by rw [Nat.le_div_iff_mul_le hy]; omega
  have h4 : t = x / y := by omega
  refine ⟨h4, ?_⟩
  rw [h4, Nat.mul_comm] at h
  omega
theorem times_over {x y t q M : Nat} (h : q + t * y = x + M) (hy : 0 < y) (hq : q < M) (hM : y < M) (h2 : t ≤ x / y + 1) : t - 1 = x / y ∧ 1 ≤ t ∧ (q + y) % M = x % y := by
  have h3 := Nat.div_add_mod x y
  have h4 : ¬ t ≤ x / y := fun h => by
    have h5 : t * y ≤ x / y * y := Nat.mul_le_mul_right y h
    rw [Nat.mul_comm (x / y) y] at h5
    omega
  have h5 : t = x / y + 1 := by omega
  refine ⟨by rw [h5, Nat.add_sub_cancel], by rw [h5]; exact Nat.le_add_left _ _, ?_⟩
  rw [h5, Nat.add_mul, Nat.one_mul, Nat.mul_comm (x / y)] at h
  have h6 : q + y = x % y + M := by omega
  have h7 := Nat.mod_lt x hy
  rw [h6, Nat.add_mod_right, Nat.mod_eq_of_lt (by omega)]

set_option maxRecDepth 100000 in
set_option maxHeartbeats 2000000 in
theorem takeTimes_any (g cap c1 cy t : Nat) (A P Z ys : List Nat) (ay : Option Addr) (w : World) (hp : PartAt w g cap A P Z) (hl : Lim P) (hlen : P.length = ys.length + 1) (hc1 : P.length ≤ c1) (hy : Lim ys) (ry : Reads w ay (ys.map u32v))
    (hne : ys.map u32v = [] ∨ ∀ g' off, ay = some ⟨g', off, none⟩ → some g' ≠ some g) (hb : ys.length ≤ 1073741824) (ht : t < 4294967296) (hy0 : 0 < V ys) (hq1 : V P / V ys ≤ t) (hq2 : t ≤ V P / V ys + 1) :
    Calls Tryd.prog 88 #[.slice (some ⟨g, A.length, none⟩) P.length c1, .slice ay ys.length cy, .int .u32 (t : Int)] w (TakesTimes g cap A P Z (V ys) w) := by
  have HS : TkIn w g cap A P Z ys t 0 0 w := ⟨P, hp, rfl, hl, by simp [V, Rep.val], fun _ _ => rfl, grown_refl _ _⟩
  have HQ := Lib.hid (And.intro hy0 (And.intro hq1 hq2))
  clear hp hy0 hq1 hq2
  go_enter Tryd.func88, Tryd.ntmps88
  go_wp2_with fail
  go_loopw [7, 15] (fun cv iv wr => ∃ k c : Nat, k ≤ ys.length ∧ c < 4294967296 ∧ cv = .int .u64 c ∧ iv = .int .i64 k ∧ TkIn w g cap A P Z ys t k c wr) (fun _ iv _ => ys.length - (intOf iv).toNat)
  case atStart => exact ⟨0, 0, by omega, by omega, rfl, rfl, HS⟩
  case round =>
    obtain ⟨k, c, hk, hc, rfl, rfl, hin⟩ := hrel
    clear HS
    by_cases hlt : k < ys.length
    · obtain ⟨x, hx, hcx, hfx, hgr, hnext⟩ := hin.step (by omega) hlt
      have hY : ys.getD k 0 < 4294967296 := hy.getD k (by omega)
      obtain ⟨g2, off, rfl, hg2, hcell⟩ := (ry.grown hgr hne).open' (by rw [List.length_map]; omega)
      have hck := hcell k _ (map_getElem? (xs := ys) hlt)
      unfold u32v at hck
      clear hcell hin hgr
      generalize ys.getD k 0 = y at *
      have hyt : y * t ≤ 4294967295 * 4294967295 := Nat.mul_le_mul (by omega) (by omega)
      obtain ⟨T, hT⟩ : ∃ T, T = c + y * t := ⟨_, rfl⟩
      have hTb : T < 18446744073709551616 := by omega
      have HN := Lib.hid hnext
      have HTe : Hid ((c : Int) + (y : Int) * (t : Int) = (T : Int)) := Lib.hid (by rw [hT, Int.natCast_add, Int.natCast_mul])
      have HT := Lib.hid hT
      have hyt2 : y * t < 18446744073709551616 := by omega
      have hsum : c + y * t < 18446744073709551616 := by omega
      clear hnext hyt
      have hkP : (k : Int) < (P.length : Int) := by omega
      by_cases hxl : x < T % 4294967296
      · have hxl' : (x : Int) < ((c : Int) + (y : Int) * (t : Int)) % 4294967296 := by rw [HTe.out]; omega
        clear hT
        go_wp2_with fail
        rw [HTe.out]
        have e : ((x : Int) - (T : Int)) % 4294967296 = ((x + 4294967296 - T % 4294967296 : Nat) : Int) := by omega
        rw [e]
        have hn := HN.out (x + 4294967296 - T % 4294967296) (T / 4294967296 + 1) (by omega) (by have := HT.out; omega)
        go_roundw
        case rel => exact ⟨k + 1, T / 4294967296 + 1, by omega, hn.bound hy ht, by go_num, by go_num, hn⟩
        case measure => simp [intOf]; omega
      · have hxl' : ¬ (x : Int) < ((c : Int) + (y : Int) * (t : Int)) % 4294967296 := by rw [HTe.out]; omega
        clear hT
        go_wp2_with fail
        rw [HTe.out]
        have e : (x : Int) - (T : Int) % 4294967296 = ((x - T % 4294967296 : Nat) : Int) := by omega
        rw [e]
        have hn := HN.out (x - T % 4294967296) (T / 4294967296) (by omega) (by have := HT.out; omega)
        go_roundw
        case rel => exact ⟨k + 1, T / 4294967296, by omega, hn.bound hy ht, by go_num, by go_num, hn⟩
        case measure => simp [intOf]; omega
    · obtain rfl : k = ys.length := by omega
      obtain ⟨x, hx, hcx, hfx, hfin⟩ := tk_done hin hlen rfl
      have HF := Lib.hid hfin
      clear hin hfin
      have hkP : (ys.length : Int) < (P.length : Int) := by omega
      by_cases hxc : x < c
      · have hxc' : (x : Int) < (c : Int) := by omega
        have hcw : ((x : Int) - (c : Int)) % 4294967296 = ((x + 4294967296 - c : Nat) : Int) := by omega
        obtain ⟨Q, q1, q2, q3, q4, q5⟩ := HF.out (x + 4294967296 - c) 1 (by omega) (by omega)
        have hQ : V Q < 4294967296 ^ (ys.length + 1) := by have := val_lt q3; rw [q2, hlen] at this; exact this
        have hYM : V ys < 4294967296 ^ (ys.length + 1) := by
          have h1 : 4294967296 ^ ys.length ≤ 4294967296 ^ (ys.length + 1) := Nat.pow_le_pow_right (by omega) (by omega)
          have h2 : V ys < 4294967296 ^ ys.length := val_lt hy
          omega
        obtain ⟨e1, e2, e3⟩ := times_over (by rw [Nat.one_mul] at q4; exact q4) HQ.out.1 hQ hYM HQ.out.2.2
        have HG := Lib.hid (giveBack_any g cap c1 cy A Q Z ys ay _ q1 q3 (by rw [q2]; exact hlen) (by rw [q2]; exact hc1) hy (ry.grown q5 hne) hne hb)
        rw [q2] at HG
        have HE := Lib.hid (And.intro e1 (And.intro e3 q5))
        have HL := Lib.hid q2
        clear q1 q2 q3 q4 q5 hQ hYM e1 e3 HF HQ
        go_wp2_with fail
        rw [← hlen]
        refine HG.out.mono ?_
        rintro e w2 ⟨rfl, Q2, r1, r2, r3, r4, r5⟩
        rw [HE.out.2.1] at r4
        have HR := Lib.hid (And.intro r1 (And.intro (r2.trans HL.out) (And.intro r3 (And.intro r4 (grownBy_trans_new HE.out.2.2 r5)))))
        have ht1 : ((t : Int) - 1) = ((t - 1 : Nat) : Int) := by omega
        clear r1 r2 r3 r4 r5 HG
        go_wp2_with fail
        go_ret
        exact ⟨by rw [← HE.out.1]; rfl, Q2, HR.out.1, HR.out.2.1, HR.out.2.2.1, HR.out.2.2.2.1, HR.out.2.2.2.2⟩
      · have hxc' : ¬ (x : Int) < (c : Int) := by omega
        have hcw : (x : Int) - (c : Int) = ((x - c : Nat) : Int) := by omega
        obtain ⟨Q, q1, q2, q3, q4, q5⟩ := HF.out (x - c) 0 (by omega) (by omega)
        obtain ⟨e1, e2⟩ := times_exact (by rw [Nat.zero_mul, Nat.add_zero] at q4; exact q4) HQ.out.1 HQ.out.2.1
        have HE := Lib.hid (And.intro e1 (And.intro e2 (And.intro q1 (And.intro q2 (And.intro q3 q5)))))
        clear q1 q2 q3 q4 q5 e1 e2 HF HQ
        go_wp2_with fail
        go_ret
        exact ⟨by rw [← HE.out.1]; rfl, Q, HE.out.2.2.1, HE.out.2.2.2.1, HE.out.2.2.2.2.1, HE.out.2.1, HE.out.2.2.2.2.2⟩
end Go.Proofs.YtodedlnpokagfaaDoor


/-
  Layer 4: what an In is in memory; its smallest calls.
-/
set_option linter.unusedVariables false
set_option linter.unusedSimpArgs false
namespace Go.Proofs.YtodedlnpokagfaaDoor
open Go.RowKit Rep

/-- What is left. -/
def lft (s : Pk.St) : List Nat := s.getD []
theorem left_lft (s : Pk.St) : Pk.left s = (lft s).length := by cases s <;> rfl
theorem cut_lft {k : Nat} {s : Pk.St} (h : k ≤ Pk.left s) : lft (Pk.cutN k s) = (lft s).drop k ∧ Pk.cutV k s = (lft s).take k ∧ (Pk.cutN k s).isNone = s.isNone := by
  rcases s with _ | r
  · simp [lft, Pk.cutN, Pk.cutV]
  · have h' : k ≤ r.length := h
    simp [lft, Pk.cutN, Pk.cutV, h']
theorem cut_over {k : Nat} {s : Pk.St} (h : Pk.left s < k) : Pk.cutN k s = none ∧ Pk.cutV k s = [] := by
  rcases s with _ | r
  · exact ⟨rfl, rfl⟩
  · have h' : ¬ k ≤ r.length := by have : r.length < k := h; omega
    simp [Pk.cutN, Pk.cutV, h']
/-- Bytes that a slice reads. -/
structure BytesAt (w : World) (a : Option Addr) (c : Nat) (bs : List Nat) : Prop where
  reads : Reads w a (bs.map u8v)
  byt : Pk.Byt bs
  le : bs.length ≤ c
  cap : c ≤ 9223372036854775807
  len : bs.length ≤ 140737488355328
theorem BytesAt.kept {w w' : World} {a : Option Addr} {c : Nat} {bs : List Nat} (h : BytesAt w a c bs) (hb : Below w.heap.size w w') : BytesAt w' a c bs := ⟨h.reads.kept hb, h.byt, h.le, h.cap, h.len⟩
theorem BytesAt.nil (w : World) (a : Option Addr) (c : Nat) (hc : c ≤ 9223372036854775807) : BytesAt w a c [] := ⟨.inl rfl, (fun b h => nomatch h), Nat.zero_le _, hc, by simp⟩
/-- No byte lies in a block. -/
def NoByte (w : World) (g : Nat) : Prop := ∀ off x, w.cell? ⟨g, off, none⟩ ≠ some (.int .u8 x)
theorem BytesAt.grown {w w' : World} {a : Option Addr} {c g : Nat} {bs : List Nat} (h : BytesAt w a c bs) (hn : NoByte w g) (hb : w.grownBy w' (some g)) : BytesAt w' a c bs := by
  refine ⟨h.reads.grown hb ?_, h.byt, h.le, h.cap, h.len⟩
  rcases h.reads with h0 | ⟨g', off, rfl, h0⟩
  · exact .inl h0
  · by_cases e : bs = []
    · exact .inl (by simp [e])
    · refine .inr fun g'' off' hg hq => ?_
      simp at hg hq
      obtain ⟨rfl, rfl⟩ := hg
      subst hq
      exact hn _ _ (h0 0 _ (map_getElem? (xs := bs) (f := u8v) (List.length_pos_iff.2 e)))
/-- The bytes lie in an older block than i. -/
def LowB (i : Nat) (a : Option Addr) (bs : List Nat) : Prop := bs = [] ∨ ∃ g off, a = some ⟨g, off, none⟩ ∧ g < i
theorem LowB.drop {i k : Nat} {p : Addr} {bs : List Nat} (h : LowB i (some p) bs) : LowB i (some (p.add k)) (bs.drop k) := by
  rcases h with rfl | ⟨g, off, e, h⟩
  · exact .inl (by simp)
  · cases e
    exact .inr ⟨g, off + k, by rw [Go.WideShapes.add_plain], h⟩
theorem LowB.nil {i : Nat} {a : Option Addr} {bs : List Nat} (h : bs = []) : LowB i a bs := .inl h
theorem BytesAt.newer {w w' : World} {a : Option Addr} {c i r : Nat} {bs : List Nat} (h : BytesAt w a c bs) (hl : LowB i a bs) (hr : i ≤ r) (hb : w.grownBy w' (some r)) : BytesAt w' a c bs := by
  refine ⟨h.reads.grown hb ?_, h.byt, h.le, h.cap, h.len⟩
  rcases hl with rfl | ⟨g, off, rfl, hg⟩
  · exact .inl rfl
  · refine .inr fun g' off' e e' => ?_
    simp at e e'
    omega
/-- Block i is an In in this state. -/
structure InAt (w : World) (i : Nat) (s : Pk.St) (a : Option Addr) (c : Nat) : Prop where
  blk : w.heap[i]? = some (.cells #[.slice a (Pk.left s) c, .bool s.isNone] 56 (0, 0))
  bytes : BytesAt w a c (lft s)
  low : LowB i a (lft s)
def InSt (w : World) (i : Nat) (s : Pk.St) : Prop := ∃ a c, InAt w i s a c
theorem cellsTwo {w : World} {i : Nat} {v0 v1 : Value} {t : TypeId} (h : w.heap[i]? = some (.cells #[v0, v1] t (0, 0))) :
    w.cell? ⟨i, 0, none⟩ = some v0 ∧ w.cell? ⟨i, 1, none⟩ = some v1 ∧ w.frozen? ⟨i, 0, none⟩ = false ∧ w.frozen? ⟨i, 1, none⟩ = false ∧ i < w.heap.size :=
  ⟨by simp [World.cell?, h], by simp [World.cell?, h], by simp [World.frozen?, h], by simp [World.frozen?, h], (Array.getElem?_eq_some_iff.1 h).1⟩
theorem noByte2 {w : World} {i : Nat} {v0 v1 : Value} {t : TypeId} (h : w.heap[i]? = some (.cells #[v0, v1] t (0, 0))) (h0 : ∀ x, v0 ≠ .int .u8 x) (h1 : ∀ x, v1 ≠ .int .u8 x) : NoByte w i := by
  intro off x e
  simp only [World.cell?, h] at e
  rcases off with _ | _ | off
  · simp at e; exact h0 _ e
  · simp at e; exact h1 _ e
  · simp at e
theorem InAt.no {w : World} {i : Nat} {s : Pk.St} {a : Option Addr} {c : Nat} (h : InAt w i s a c) : NoByte w i := noByte2 h.blk (fun _ e => by cases e) (fun _ e => by cases e)
theorem InSt.no {w : World} {i : Nat} {s : Pk.St} (h : InSt w i s) : NoByte w i := by obtain ⟨a, c, h⟩ := h; exact h.no
theorem InSt.lt {w : World} {i : Nat} {s : Pk.St} (h : InSt w i s) : i < w.heap.size := by obtain ⟨a, c, h⟩ := h; exact (Array.getElem?_eq_some_iff.1 h.blk).1
theorem InAt.kept {w w' : World} {i : Nat} {s : Pk.St} {a : Option Addr} {c : Nat} (h : InAt w i s a c) (hb : Below w.heap.size w w') : InAt w' i s a c :=
  ⟨(hb.block _ (Array.getElem?_eq_some_iff.1 h.blk).1).trans h.blk, h.bytes.kept hb, h.low⟩
theorem InSt.kept {w w' : World} {i : Nat} {s : Pk.St} (h : InSt w i s) (hb : Below w.heap.size w w') : InSt w' i s := by obtain ⟨a, c, h⟩ := h; exact ⟨a, c, h.kept hb⟩
/-- What another one takes changes nothing. -/
theorem InSt.past {w w' : World} {i g : Nat} {s : Pk.St} (h : InSt w i s) (hn : NoByte w g) (hne : i ≠ g) (hb : w.grownBy w' (some g)) : InSt w' i s := by
  obtain ⟨a, c, h⟩ := h
  exact ⟨a, c, (hb.block _ (Array.getElem?_eq_some_iff.1 h.blk).1 (by simpa using hne)).trans h.blk, h.bytes.grown hn hb, h.low⟩
/-- What is newer than an In may be written. -/
theorem InSt.newer {w w' : World} {i g : Nat} {s : Pk.St} (h : InSt w i s) (hne : i < g) (hb : w.grownBy w' (some g)) : InSt w' i s := by
  obtain ⟨a, c, h⟩ := h
  exact ⟨a, c, (hb.block _ (Array.getElem?_eq_some_iff.1 h.blk).1 (by simp; omega)).trans h.blk, h.bytes.newer h.low (by omega) hb, h.low⟩
theorem InAt.set {w : World} {i : Nat} {s : Pk.St} {a : Option Addr} {c : Nat} (h : InAt w i s a c) {s' : Pk.St} {a' : Option Addr} {c' : Nat} (hb : BytesAt w a' c' (lft s')) (hlo : LowB i a' (lft s')) (hs : s'.isNone = s.isNone) :
    InSt (w.setCell ⟨i, 0, none⟩ (.slice a' (Pk.left s') c')) i s' ∧ w.grownBy (w.setCell ⟨i, 0, none⟩ (.slice a' (Pk.left s') c')) (some i) := by
  have hg : w.grownBy (w.setCell ⟨i, 0, none⟩ (.slice a' (Pk.left s') c')) (some i) := grownBy_set (grown_refl w _)
  refine ⟨⟨a', c', ?_, hb.grown h.no hg, hlo⟩, hg⟩
  rw [hs]
  simp only [World.setCell, Array.getElem?_modify, h.blk]
  simp
theorem InAt.fail {w : World} {i : Nat} {s : Pk.St} {a : Option Addr} {c : Nat} (h : InAt w i s a c) :
    InSt ((w.setCell ⟨i, 0, none⟩ (.slice none 0 0)).setCell ⟨i, 1, none⟩ (.bool true)) i none ∧ w.grownBy ((w.setCell ⟨i, 0, none⟩ (.slice none 0 0)).setCell ⟨i, 1, none⟩ (.bool true)) (some i) := by
  have hg : w.grownBy ((w.setCell ⟨i, 0, none⟩ (.slice none 0 0)).setCell ⟨i, 1, none⟩ (.bool true)) (some i) := grownBy_set (grownBy_set (grown_refl w _))
  refine ⟨⟨none, 0, ?_, .nil _ _ _ (by omega), .inl rfl⟩, hg⟩
  simp only [World.setCell, Array.getElem?_modify, h.blk]
  simp [Pk.left]

/-- A call on an In gives a value; the In is in this state then, and nothing else has changed. -/
def TakesV (i : Nat) (v : Value) (s : Pk.St) (w : World) (e : Ending) (w' : World) : Prop := e = .returned v ∧ Hid (InSt w' i s) ∧ Hid (w.grownBy w' (some i))
/-- .. gives bytes .. -/
def TakesB (i : Nat) (bs : List Nat) (s : Pk.St) (w : World) (e : Ending) (w' : World) : Prop := ∃ a c, e = .returned (.slice a bs.length c) ∧ Hid (BytesAt w' a c bs) ∧ Hid (InSt w' i s) ∧ Hid (w.grownBy w' (some i))

set_option maxRecDepth 100000 in
set_option maxHeartbeats 400000 in
theorem fail_any {w : World} {i : Nat} {s : Pk.St} (h : InSt w i s) : Calls Tryd.prog 34 #[.pointer (some ⟨i, 0, none⟩)] w (TakesV i (.tuple #[]) none w) := by
  obtain ⟨a, c, h⟩ := h
  obtain ⟨c0, c1, f0, f1, hlt⟩ := cellsTwo h.blk
  have HE := Lib.hid h.fail
  clear h
  go_enter Tryd.func34, Tryd.ntmps34
  go_wp2_with fail
  go_end0
  exact ⟨rfl, Lib.hid HE.out.1, Lib.hid HE.out.2⟩

set_option maxRecDepth 100000 in
set_option maxHeartbeats 400000 in
theorem Wrong_any {w : World} {i : Nat} {s : Pk.St} (h : InSt w i s) : Calls Tryd.prog 8 #[.pointer (some ⟨i, 0, none⟩)] w (Gives (.bool s.isNone) w) := by
  obtain ⟨a, c, h⟩ := h
  obtain ⟨c0, c1, f0, f1, hlt⟩ := cellsTwo h.blk
  clear h
  generalize s.isNone = b at *
  go_enter Tryd.func8, Tryd.ntmps8
  go_wp2_with fail
  go_ret
  exact Gives.mk' rfl

/-- The error's number. -/
def doneV (s : Pk.St) : Int := if s.isNone ∨ 0 < Pk.left s then 3 else 0
set_option maxRecDepth 100000 in
set_option maxHeartbeats 400000 in
theorem Done_any {w : World} {i : Nat} {s : Pk.St} (h : InSt w i s) : Calls Tryd.prog 9 #[.pointer (some ⟨i, 0, none⟩)] w (Gives (.int .i64 (doneV s)) w) := by
  obtain ⟨a, c, h⟩ := h
  obtain ⟨c0, c1, f0, f1, hlt⟩ := cellsTwo h.blk
  have hc := h.bytes.le
  have hc2 := h.bytes.cap
  rw [← left_lft] at hc
  clear h
  obtain ⟨d, hd⟩ : ∃ d, doneV s = d := ⟨_, rfl⟩
  have HD := Lib.hid hd
  rw [hd]
  clear hd
  unfold doneV at HD
  generalize Pk.left s = n at *
  cases hs : s.isNone
  case true =>
    rw [hs] at c1
    have HV : Hid (d = 3) := Lib.hid (by have := HD.out; rw [hs, if_pos (.inl rfl)] at this; exact this.symm)
    clear hs HD
    go_enter Tryd.func9, Tryd.ntmps9
    go_wp2_with fail
    go_ret
    exact Gives.mk' (by rw [HV.out]; rfl)
  case false =>
    rw [hs] at c1
    by_cases hn : 0 < n
    · have HV : Hid (d = 3) := Lib.hid (by have := HD.out; rw [hs, if_pos (.inr hn)] at this; exact this.symm)
      have hi : decide ((0 : Int) < (n : Int)) = true := decide_eq_true (by omega)
      clear hs HD
      go_enter Tryd.func9, Tryd.ntmps9
      go_wp2_with fail
      go_ret
      exact Gives.mk' (by rw [HV.out]; rfl)
    · have HV : Hid (d = 0) := Lib.hid (by have := HD.out; rw [hs, if_neg (by simp [hn])] at this; exact this.symm)
      have hi : decide ((0 : Int) < (n : Int)) = false := decide_eq_false (by omega)
      clear hs HD
      go_enter Tryd.func9, Tryd.ntmps9
      go_wp2_with fail
      go_ret
      exact Gives.mk' (by rw [HV.out]; rfl)
end Go.Proofs.YtodedlnpokagfaaDoor


/-
  Layer 4: In.cut, In.number.
-/
set_option linter.unusedVariables false
set_option linter.unusedSimpArgs false
namespace Go.Proofs.YtodedlnpokagfaaDoor
open Go.RowKit Rep

theorem BytesAt.drop {w : World} {p : Addr} {c k : Nat} {bs : List Nat} (h : BytesAt w (some p) c bs) (hk : k ≤ bs.length) : BytesAt w (some (p.add k)) (c - k) (bs.drop k) := by
  refine ⟨?_, h.byt.drop k, by have := h.le; simp; omega, by have := h.cap; omega, by have := h.len; simp; omega⟩
  rcases h.reads with h0 | ⟨g, off, e, h0⟩
  · have : bs = [] := by simpa using h0
    subst this
    exact .inl (by simp)
  · cases e
    refine .inr ⟨g, off + k, by rw [Go.WideShapes.add_plain], fun i u hu => ?_⟩
    rw [List.map_drop, List.getElem?_drop] at hu
    rw [Nat.add_assoc]
    exact h0 _ u hu
theorem BytesAt.none' {w : World} {a : Option Addr} {c k : Nat} {bs : List Nat} (h : BytesAt w a c bs) (he : bs.length ≤ k) : BytesAt w a (c - k) (bs.drop k) := by
  have : bs.drop k = [] := List.drop_eq_nil_of_le he
  rw [this]; exact .nil _ _ _ (by have := h.cap; omega)
theorem BytesAt.take {w : World} {a : Option Addr} {c k : Nat} {bs : List Nat} (h : BytesAt w a c bs) (hk : k ≤ bs.length) : BytesAt w a k (bs.take k) :=
  ⟨by rw [List.map_take]; exact h.reads.take k, h.byt.take k, by simp; omega, by have := h.len; omega, by have := h.len; simp; omega⟩
/-- What cut leaves behind. -/
theorem cut_end {w : World} {i k : Nat} {s : Pk.St} {a : Option Addr} {c : Nat} (h : InAt w i s a c) (hk : k ≤ Pk.left s) {a' : Option Addr} {c' n : Nat} (hn : n = Pk.left s - k) (hr : BytesAt w a' c' ((lft s).drop k)) (hlo : LowB i a' ((lft s).drop k)) :
    TakesB i (Pk.cutV k s) (Pk.cutN k s) w (.returned (.slice a k k)) (w.setCell ⟨i, 0, none⟩ (.slice a' n c')) := by
  obtain ⟨e1, e2, e3⟩ := cut_lft hk
  have hl : Pk.left s = (lft s).length := left_lft s
  have hb : BytesAt w a k (Pk.cutV k s) := by rw [e2]; exact h.bytes.take (by omega)
  have hset := h.set (s' := Pk.cutN k s) (a' := a') (c' := c') (by rw [e1]; exact hr) (by rw [e1]; exact hlo) e3
  have h5 : Pk.left (Pk.cutN k s) = n := by rw [left_lft, e1, List.length_drop, hn]; omega
  rw [h5] at hset
  have h6 : (Pk.cutV k s).length = k := by rw [e2, List.length_take]; omega
  exact ⟨a, k, by rw [h6], Lib.hid (hb.grown h.no hset.2), Lib.hid hset.1, Lib.hid hset.2⟩
set_option maxRecDepth 100000 in
set_option maxHeartbeats 800000 in
theorem cut_any {w : World} {i k : Nat} {s : Pk.St} (h : InSt w i s) (hk : k ≤ 140737488355328) :
    Calls Tryd.prog 35 #[.pointer (some ⟨i, 0, none⟩), .int .i64 (k : Int)] w (TakesB i (Pk.cutV k s) (Pk.cutN k s) w) := by
  have HFA := Lib.hid (fail_any h)
  obtain ⟨a, c, h⟩ := h
  obtain ⟨c0, c1, f0, f1, hlt⟩ := cellsTwo h.blk
  have hc := h.bytes.le
  have hc2 := h.bytes.cap
  rw [← left_lft] at hc
  by_cases hlt' : Pk.left s < k
  · have HO := Lib.hid (cut_over hlt')
    have hd : decide ((Pk.left s : Int) < (k : Int)) = true := decide_eq_true (by omega)
    clear h
    generalize Pk.left s = n at *
    go_enter Tryd.func35, Tryd.ntmps35
    go_wp2_with fail
    refine HFA.out.mono ?_
    rintro e w1 ⟨rfl, G1, G2⟩
    clear HFA
    go_wp2_with fail
    go_ret
    exact ⟨none, 0, by rw [HO.out.2]; rfl, Lib.hid (by rw [HO.out.2]; exact .nil _ _ _ (by omega)), by rw [HO.out.1]; exact G1, G2⟩
  · have hle : k ≤ Pk.left s := by omega
    have HK := Lib.hid (cut_lft hle)
    have HH := Lib.hid h
    have hd : decide ((Pk.left s : Int) < (k : Int)) = false := decide_eq_false (by omega)
    have HE : Hid (∀ (a' : Option Addr) (c' n : Nat), n = Pk.left s - k → BytesAt w a' c' ((lft s).drop k) ∧ LowB i a' ((lft s).drop k) → TakesB i (Pk.cutV k s) (Pk.cutN k s) w (.returned (.slice a k k)) (w.setCell ⟨i, 0, none⟩ (.slice a' n c'))) := Lib.hid fun a' c' n hn hr => cut_end HH.out hle hn hr.1 hr.2
    have HL : Hid (Pk.left s = (lft s).length) := Lib.hid (left_lft s)
    have HR : Hid (c = k → BytesAt w a (c - k) ((lft s).drop k) ∧ LowB i a ((lft s).drop k)) := Lib.hid fun e => ⟨HH.out.bytes.none' (by have := HL.out; have := HH.out.bytes.le; omega), .nil (List.drop_eq_nil_of_le (by have := HL.out; have := HH.out.bytes.le; omega))⟩
    have HS : Hid (∀ p, a = some p → BytesAt w (some (p.add k)) (c - k) ((lft s).drop k) ∧ LowB i (some (p.add k)) ((lft s).drop k)) := Lib.hid fun p e => by subst e; exact ⟨HH.out.bytes.drop (by have := HL.out; omega), HH.out.low.drop⟩
    have HZ : Hid (a = none → k = 0 ∧ Pk.left s = 0) := Lib.hid fun e => by
      have h0 := HH.out.bytes.reads
      subst e
      rcases h0 with h0 | ⟨_, _, h0, _⟩
      · have : lft s = [] := by simpa using h0
        have := HL.out; rw [‹lft s = []›] at this; simp at this; omega
      · cases h0
    clear HFA hlt' HK HL
    generalize hn : Pk.left s = n at *
    clear hn
    rcases a with _ | ⟨g, off, q⟩
    · obtain ⟨rfl, rfl⟩ := HZ.out rfl
      have HB : Hid (BytesAt w none c ((lft s).drop 0) ∧ LowB i none ((lft s).drop 0)) := Lib.hid ⟨HH.out.bytes, HH.out.low⟩
      clear HS HZ HR h HH
      go_enter Tryd.func35, Tryd.ntmps35
      go_wp2_with fail
      go_ret
      exact HE.out _ _ _ rfl HB.out
    · clear HZ h HH
      go_enter Tryd.func35, Tryd.ntmps35
      go_wp2_with fail
      · go_ret
        refine HE.out _ _ _ rfl ?_
        have hck : c = k := by assumption
        have := HR.out hck
        rwa [hck, Nat.sub_self] at this
      · go_ret
        exact HE.out _ _ _ rfl (HS.out _ rfl)

theorem or_byte {v b : Nat} (hv : v < 72057594037927936) (hb : b < 256) : ∃ W : Nat, bits BinOp.or IntKind.u64 ((v : Int) * 256) (b : Int) = (W : Int) ∧ W = v * 256 + b ∧ W < 18446744073709551616 := by
  refine ⟨v * 256 + b, ?_, rfl, by omega⟩
  have := u64_or_nat (v * 256) b (by omega) (by omega)
  rw [show (v : Int) * 256 = ((v * 256 : Nat) : Int) from by omega, this]
  rw [Nat.or_comm, Nat.mul_comm v 256, show 256 = 2 ^ 8 from rfl, or_low (by omega)]
  omega
theorem val_take {bs : List Nat} {j : Nat} (h : j < bs.length) : Pk.val (bs.take (j + 1)) = Pk.val (bs.take j) * 256 + bs.getD j 0 := by
  rw [List.take_succ_eq_append_getElem h, Pk.val_snoc, List.getD_eq_getElem?_getD, List.getElem?_eq_getElem h]; rfl
theorem val_small {bs : List Nat} (hb : Pk.Byt bs) {j : Nat} (hj : j ≤ 7) : Pk.val (bs.take j) < 72057594037927936 := by
  have h1 := Pk.val_lt (hb.take j)
  have h2 : (256 : Nat) ^ (bs.take j).length ≤ 256 ^ 7 := Nat.pow_le_pow_right (by omega) (by rw [List.length_take]; omega)
  have h3 : (256 : Nat) ^ 7 = 72057594037927936 := by decide
  omega
theorem byt_getD {bs : List Nat} (hb : Pk.Byt bs) (j : Nat) : bs.getD j 0 < 256 := by
  by_cases h : j < bs.length
  · rw [List.getD_eq_getElem?_getD, List.getElem?_eq_getElem h]; exact hb _ (List.getElem_mem h)
  · rw [List.getD_eq_getElem?_getD, List.getElem?_eq_none (by omega)]; exact (by decide : (0:Nat) < 256)

set_option maxRecDepth 100000 in
set_option maxHeartbeats 1600000 in
theorem number_any {w : World} {i k : Nat} {s : Pk.St} (h : InSt w i s) (hk : k ≤ 8) :
    Calls Tryd.prog 32 #[.pointer (some ⟨i, 0, none⟩), .int .i64 (k : Int)] w (TakesV i (.int .u64 (Pk.val (Pk.cutV k s) : Int)) (Pk.cutN k s) w) := by
  have HC := Lib.hid (cut_any h (k := k) (by omega))
  have hlen := Pk.cutV_len k s
  clear h
  generalize Pk.cutV k s = bs at *
  generalize Pk.cutN k s = s' at *
  go_enter Tryd.func32, Tryd.ntmps32
  go_wp2_with fail
  refine HC.out.mono ?_
  rintro e w1 ⟨a, c, rfl, G0, G1, G2⟩
  clear HC
  go_wp2_with fail
  go_loop [5, 12] (fun nv iv => ∃ j : Nat, j ≤ bs.length ∧ iv = .int .i64 j ∧ nv = .int .u64 (Pk.val (bs.take j) : Int)) (fun _ iv => bs.length - (intOf iv).toNat)
  case atStart => exact ⟨0, Nat.zero_le _, rfl, rfl⟩
  case round =>
    obtain ⟨j, hj, rfl, rfl⟩ := hrel
    by_cases hlt : j < bs.length
    · obtain ⟨g, off, rfl, hg, hcell⟩ := G0.out.reads.open' (by rw [List.length_map]; omega)
      have hck := hcell j _ (map_getElem? (xs := bs) hlt)
      have HV := Lib.hid (val_take hlt)
      have hb := byt_getD G0.out.byt j
      have hv := val_small G0.out.byt (j := j) (by omega)
      obtain ⟨W, hW, hW2, hW3⟩ := or_byte hv hb
      rw [← hW2] at HV
      unfold u8v at hck
      clear hW2 hcell
      generalize Pk.val (bs.take j) = v at *
      generalize bs.getD j 0 = b at *
      go_wp2_with fail
      go_round
      case rel => exact ⟨j + 1, by omega, by go_num, by rw [HV.out]⟩
      case measure => simp [intOf]; omega
    · obtain rfl : j = bs.length := by omega
      rw [List.take_length]
      go_wp2_with fail
      go_ret
      exact ⟨rfl, G1, G2⟩
end Go.Proofs.YtodedlnpokagfaaDoor


/-
  Layer 4: In.Int, In.limb, In.Flag, In.Count, In.Bytes.
-/
set_option linter.unusedVariables false
set_option linter.unusedSimpArgs false
namespace Go.Proofs.YtodedlnpokagfaaDoor
open Go.RowKit Rep

theorem TakesV.mono {i : Nat} {v v' : Value} {s : Pk.St} {w : World} {e : Ending} {w' : World} (h : TakesV i v s w e w') (hv : v = v') : TakesV i v' s w e w' := hv ▸ h
theorem iN_wrap {v : Nat} (h : v < 18446744073709551616) : Pk.iN v = wrap64 (v : Int) := by unfold Pk.iN wrap64; split <;> omega
theorem beq_dec {v : Nat} : ((v : Int) == 1) = decide (v = 1) := by
  by_cases h : v = 1
  · subst h; rfl
  · rw [decide_eq_false h]; simp; omega
theorem val8_lt {k : Nat} {s : Pk.St} {w : World} {i : Nat} (h : InSt w i s) (hk : k ≤ 8) : Pk.val (Pk.cutV k s) < 18446744073709551616 := by
  obtain ⟨a, c, h⟩ := h
  have h1 := Pk.val_lt (Pk.cutV_byt (k := k) (s := s) fun r e => by have := h.bytes.byt; subst e; exact this)
  have h2 := Pk.cutV_len k s
  have h3 : (256 : Nat) ^ (Pk.cutV k s).length ≤ 256 ^ 8 := Nat.pow_le_pow_right (by omega) (by omega)
  have h4 : (256 : Nat) ^ 8 = 18446744073709551616 := by decide
  omega
theorem val4_lt {s : Pk.St} {w : World} {i : Nat} (h : InSt w i s) : Pk.val (Pk.cutV 4 s) < 4294967296 := by
  obtain ⟨a, c, h⟩ := h
  have h1 := Pk.val_lt (Pk.cutV_byt (k := 4) (s := s) fun r e => by have := h.bytes.byt; subst e; exact this)
  have h2 := Pk.cutV_len 4 s
  have h3 : (256 : Nat) ^ (Pk.cutV 4 s).length ≤ 256 ^ 4 := Nat.pow_le_pow_right (by omega) (by omega)
  have h4 : (256 : Nat) ^ 4 = 4294967296 := by decide
  omega

set_option maxRecDepth 100000 in
set_option maxHeartbeats 400000 in
theorem Int_any {w : World} {i : Nat} {s : Pk.St} (h : InSt w i s) : Calls Tryd.prog 15 #[.pointer (some ⟨i, 0, none⟩)] w (TakesV i (.int .i64 (Pk.intV s)) (Pk.intN s) w) := by
  have HC := Lib.hid (number_any h (k := 8) (by omega))
  have hlt := val8_lt h (k := 8) (by omega)
  unfold Pk.intV Pk.intN
  clear h
  generalize Pk.val (Pk.cutV 8 s) = v at *
  generalize Pk.cutN 8 s = s' at *
  go_enter Tryd.func15, Tryd.ntmps15
  go_wp2_with fail
  refine HC.out.mono ?_
  rintro e w1 ⟨rfl, G1, G2⟩
  clear HC
  go_wp2_with fail
  go_ret
  exact ⟨by rw [iN_wrap hlt]; rfl, G1, G2⟩

set_option maxRecDepth 100000 in
set_option maxHeartbeats 400000 in
theorem limb_any {w : World} {i : Nat} {s : Pk.St} (h : InSt w i s) : Calls Tryd.prog 38 #[.pointer (some ⟨i, 0, none⟩)] w (TakesV i (.int .u32 (Pk.val (Pk.cutV 4 s) : Int)) (Pk.cutN 4 s) w) := by
  have HC := Lib.hid (number_any h (k := 4) (by omega))
  have hlt := val4_lt h
  clear h
  generalize Pk.val (Pk.cutV 4 s) = v at *
  generalize Pk.cutN 4 s = s' at *
  go_enter Tryd.func38, Tryd.ntmps38
  go_wp2_with fail
  refine HC.out.mono ?_
  rintro e w1 ⟨rfl, G1, G2⟩
  clear HC
  go_wp2_with fail
  go_ret
  exact ⟨rfl, G1, G2⟩

set_option maxRecDepth 100000 in
set_option maxHeartbeats 800000 in
theorem Flag_any {w : World} {i : Nat} {s : Pk.St} (h : InSt w i s) : Calls Tryd.prog 17 #[.pointer (some ⟨i, 0, none⟩)] w (TakesV i (.bool (Pk.flagV s)) (Pk.flagN s) w) := by
  have HC := Lib.hid (number_any h (k := 1) (by omega))
  have hlt := val8_lt h (k := 1) (by omega)
  unfold Pk.flagV Pk.flagN
  clear h
  generalize Pk.val (Pk.cutV 1 s) = v at *
  generalize Pk.cutN 1 s = s' at *
  by_cases hv : v ≤ 1
  · have hd : decide ((1 : Int) < (v : Int)) = false := decide_eq_false (by omega)
    rw [if_pos hv]
    go_enter Tryd.func17, Tryd.ntmps17
    go_wp2_with fail
    refine HC.out.mono ?_
    rintro e w1 ⟨rfl, G1, G2⟩
    clear HC
    go_wp2_with fail
    go_ret
    exact ⟨by rw [← beq_dec]; rfl, G1, G2⟩
  · have hd : decide ((1 : Int) < (v : Int)) = true := decide_eq_true (by omega)
    have he : ((v : Int) == 1) = false := by simp; omega
    have HV : Hid (decide (v = 1) = false) := Lib.hid (decide_eq_false (by omega))
    rw [if_neg hv]
    go_enter Tryd.func17, Tryd.ntmps17
    go_wp2_with fail
    refine HC.out.mono ?_
    rintro e w1 ⟨rfl, G1, G2⟩
    clear HC
    go_wp2_with fail
    refine (fail_any G1.out).mono ?_
    rintro e w2 ⟨rfl, G3, G4⟩
    go_wp2_with fail
    go_ret
    exact ⟨by rw [HV.out]; rfl, G3, Lib.hid (grownBy_trans_new G2.out G4.out)⟩

theorem intV_le {s : Pk.St} {w : World} {i : Nat} (h : InSt w i s) : -9223372036854775808 ≤ Pk.intV s ∧ Pk.intV s ≤ 9223372036854775807 := by
  have h1 := val8_lt h (k := 8) (by omega)
  exact ⟨Pk.iN_ge h1, Pk.iN_le h1⟩

set_option maxRecDepth 100000 in
set_option maxHeartbeats 800000 in
theorem Count_any {w : World} {i : Nat} {s : Pk.St} {m : Int} (h : InSt w i s) (hm : -9223372036854775808 ≤ m ∧ m ≤ 9223372036854775807) : Calls Tryd.prog 28 #[.pointer (some ⟨i, 0, none⟩), .int .i64 m] w (TakesV i (.int .i64 (Pk.countV m s : Int)) (Pk.countN m s) w) := by
  have HC := Lib.hid (Int_any h)
  have hb := intV_le h
  unfold Pk.countV Pk.countN Pk.countOK
  clear h
  generalize Pk.intV s = v at *
  generalize Pk.intN s = s' at *
  obtain ⟨v1, v2⟩ := hb
  obtain ⟨m1, m2⟩ := hm
  by_cases h0 : v < 0
  · have hd : decide (v < 0) = true := decide_eq_true h0
    have HV : Hid (decide (0 ≤ v ∧ v ≤ ((Pk.left s' / (max m 1).toNat : Nat) : Int)) = false) := Lib.hid (decide_eq_false (by omega))
    rw [HV.out]
    go_enter Tryd.func28, Tryd.ntmps28
    go_wp2_with fail
    refine HC.out.mono ?_
    rintro e w1 ⟨rfl, G1, G2⟩
    clear HC
    go_wp2_with fail
    refine (fail_any G1.out).mono ?_
    rintro e w2 ⟨rfl, G3, G4⟩
    go_wp2_with fail
    go_ret
    exact ⟨rfl, G3, Lib.hid (grownBy_trans_new G2.out G4.out)⟩
  · have hd : decide (v < 0) = false := decide_eq_false h0
    obtain ⟨M, hM⟩ : ∃ M : Nat, max m 1 = (M : Int) := ⟨(max m 1).toNat, by omega⟩
    have hM1 : 1 ≤ (M : Int) := by omega
    have hM0 : (max m 1).toNat = M := by omega
    have HQ : Hid (v ≤ ((Pk.left s' / M : Nat) : Int) ∨ ((Pk.left s' / M : Nat) : Int) < v) := Lib.hid (by omega)
    have HB : Hid (decide (0 ≤ v ∧ v ≤ ((Pk.left s' / (max m 1).toNat : Nat) : Int)) = decide (v ≤ ((Pk.left s' / M : Nat) : Int))) := Lib.hid (by
      rw [hM0]; congr 1; exact propext ⟨fun h => h.2, fun h => ⟨by omega, h⟩⟩)
    rw [HB.out]
    have HW : Hid (∀ n : Nat, n ≤ 140737488355328 → wrap64 ((n : Int) / (M : Int)) = ((n / M : Nat) : Int)) := Lib.hid fun n hn => by
      have h1 : n / M ≤ n := Nat.div_le_self _ _
      rw [← Int.natCast_ediv]
      generalize n / M = q at *
      exact IntWalk.wrap64_in _ ⟨by omega, by omega⟩
    clear hM0 HB
    rcases HQ.out with hq | hq
    · have HD : Hid (decide (v ≤ ((Pk.left s' / M : Nat) : Int)) = true) := Lib.hid (decide_eq_true hq)
      have hdq : decide (((Pk.left s' / M : Nat) : Int) < v) = false := decide_eq_false (by omega)
      rw [HD.out]
      have HT : Hid (((v.toNat : Nat) : Int) = v) := Lib.hid (by omega)
      generalize v.toNat = vn at *
      clear HQ hq h0 HD
      go_enter Tryd.func28, Tryd.ntmps28
      go_wp2_with fail
      refine HC.out.mono ?_
      rintro e w1 ⟨rfl, G1, G2⟩
      obtain ⟨a, c, hI⟩ := G1.out
      obtain ⟨c0, c1, f0, f1, hlt⟩ := cellsTwo hI.blk
      have hc := hI.bytes.le
      have hc2 := hI.bytes.len
      rw [← left_lft] at hc hc2
      have hw := HW.out (Pk.left s') (by omega)
      clear HC hI HW
      generalize Pk.left s' / M = q at *
      go_wp2_with fail
      go_ret
      exact ⟨by show Ending.returned (.int .i64 v) = Ending.returned (.int .i64 (vn : Int)); rw [HT.out], G1, G2⟩
    · have HD : Hid (decide (v ≤ ((Pk.left s' / M : Nat) : Int)) = false) := Lib.hid (decide_eq_false (by omega))
      have hdq : decide (((Pk.left s' / M : Nat) : Int) < v) = true := decide_eq_true hq
      rw [HD.out]
      clear HQ hq h0 HD
      go_enter Tryd.func28, Tryd.ntmps28
      go_wp2_with fail
      refine HC.out.mono ?_
      rintro e w1 ⟨rfl, G1, G2⟩
      obtain ⟨a, c, hI⟩ := G1.out
      obtain ⟨c0, c1, f0, f1, hlt⟩ := cellsTwo hI.blk
      have hc := hI.bytes.le
      have hc2 := hI.bytes.len
      rw [← left_lft] at hc hc2
      have hw := HW.out (Pk.left s') (by omega)
      clear HC hI HW
      generalize Pk.left s' / M = q at *
      go_wp2_with fail
      refine (fail_any G1.out).mono ?_
      rintro e w2 ⟨rfl, G3, G4⟩
      go_wp2_with fail
      go_ret
      exact ⟨rfl, G3, Lib.hid (grownBy_trans_new G2.out G4.out)⟩
theorem countV_le {m : Int} {s : Pk.St} : Pk.countV m s ≤ Pk.left (Pk.countN m s) := by
  unfold Pk.countV Pk.countN
  cases h : Pk.countOK m s
  · exact Nat.zero_le _
  · rw [if_pos rfl, if_pos rfl]
    unfold Pk.countOK at h
    obtain ⟨h1, h2⟩ := of_decide_eq_true h
    have h3 : Pk.left (Pk.intN s) / (max m 1).toNat ≤ Pk.left (Pk.intN s) := Nat.div_le_self _ _
    omega

theorem TakesB.after {i : Nat} {bs : List Nat} {s : Pk.St} {w w1 : World} {e : Ending} {w' : World} (h : TakesB i bs s w1 e w') (hg : w.grownBy w1 (some i)) : TakesB i bs s w e w' := by
  obtain ⟨a, c, e1, h1, h2, h3⟩ := h
  exact ⟨a, c, e1, h1, h2, Lib.hid (grownBy_trans_new hg h3.out)⟩
set_option maxRecDepth 100000 in
set_option maxHeartbeats 800000 in
theorem Bytes_any {w : World} {i : Nat} {s : Pk.St} (h : InSt w i s) : Calls Tryd.prog 19 #[.pointer (some ⟨i, 0, none⟩)] w (TakesB i (Pk.bytesV s) (Pk.bytesN s) w) := by
  have HC := Lib.hid (Count_any h (m := 1) ⟨by omega, by omega⟩)
  have hle := countV_le (m := 1) (s := s)
  unfold Pk.bytesV Pk.bytesN
  clear h
  generalize Pk.countV 1 s = n at *
  generalize Pk.countN 1 s = s' at *
  go_enter Tryd.func19, Tryd.ntmps19
  go_wp2_with fail
  refine HC.out.mono ?_
  rintro e w1 ⟨rfl, G1, G2⟩
  clear HC
  have hn : n ≤ 140737488355328 := by
    obtain ⟨a, c, hI⟩ := G1.out
    have h2 := hI.bytes.len
    rw [← left_lft] at h2
    omega
  go_wp2_with fail
  refine (cut_any G1.out hn).mono ?_
  intro e w2 G3
  have G4 := Lib.hid (G3.after G2.out)
  obtain ⟨a, c, rfl, G5⟩ := G3
  clear G5
  go_wp2_with fail
  go_ret
  exact G4.out
end Go.Proofs.YtodedlnpokagfaaDoor


/-
  The document's Limbs and Text.
-/
set_option linter.unusedVariables false
set_option linter.unusedSimpArgs false
namespace Go.Proofs.YtodedlnpokagfaaDoor
open Go.RowKit Rep

theorem val_drop (ds : List Nat) (k : Nat) (h : k < ds.length) : val 10 (ds.drop k) = 10 * val 10 (ds.drop (k + 1)) + ds.getD k 0 := by
  rw [List.drop_eq_getElem_cons h, val_cons, getD_lt h, Nat.add_comm]
theorem L_val_len (ds : List Nat) (hd : Dig 10 ds) : (L (val 10 ds)).length ≤ ds.length :=
  (L_len _ _).2 (Nat.lt_of_lt_of_le (val_lt hd) (Nat.pow_le_pow_left (by omega) _))

theorem OwnR.blk_ge {E : TypeId} {f : Nat → Value} {B : Nat} {w : World} {a : Option Addr} {c : Nat} {xs : List Nat} (h : OwnR E f B w a c xs) {g : Nat} (hg : blk a = some g) : B ≤ g := by
  obtain ⟨_, ⟨rfl, _⟩ | ⟨g', rfl, hB, _⟩⟩ := h
  · cases hg
  · cases hg; exact hB

/-- The limbs of the digits from k on are there. -/
def LimbsIn (w : World) (ds : List Nat) (k : Nat) (ov : Value) (wr : World) : Prop :=
  ∃ (a : Option Addr) (c : Nat), ov = .slice a (L (val 10 (ds.drop k))).length c ∧ Own w.heap.size wr a c (L (val 10 (ds.drop k))) ∧ Below w.heap.size w wr

set_option maxRecDepth 100000 in
set_option maxHeartbeats 2000000 in
theorem Limbs_any (a : Option Addr) (c : Nat) (ds : List Nat) (w : World) (hr : Reads w a (ds.map i64v)) (hd : Dig 10 ds) (hl : ds.length ≤ 1073741824) :
    Calls Tryd.prog 55 #[.slice a ds.length c] w (GivesOwn (L (val 10 ds)) w) := by
  have HS : LimbsIn w ds ds.length (.slice (some ⟨w.heap.size, 0, none⟩) 0 0) (w.alloc (.cells #[] 71)) := by
    refine ⟨some ⟨w.heap.size, 0, none⟩, 0, by simp [val, L_zero], ⟨by simp [maxLen], .inr ⟨w.heap.size, rfl, Nat.le_refl _, ?_⟩⟩, (Below.refl _ _).alloc (Nat.le_refl _) _⟩
    rw [List.drop_length, show val 10 [] = 0 from rfl, L_zero]
    exact Row.new (E := 71) w #[]
  go_enter Tryd.func55, Tryd.ntmps55
  go_wp2_with fail
  go_loopw [3, 4] (fun ov iv wr => ∃ k : Nat, k ≤ ds.length ∧ iv = .int .i64 ((k : Int) - 1) ∧ LimbsIn w ds k ov wr) (fun _ iv _ => (intOf iv + 1).toNat)
  case atStart => exact ⟨ds.length, Nat.le_refl _, rfl, HS⟩
  case round =>
    obtain ⟨k, hk, rfl, a1, c1, rfl, ho, hB⟩ := hrel
    clear HS
    cases k with
    | zero =>
      rw [List.drop_zero] at ho ⊢
      go_wp2_with fail
      go_ret
      exact ⟨a1, c1, rfl, ho, hB⟩
    | succ k =>
      have hr' := hr.kept hB
      obtain ⟨g, off, rfl, hg, hcell⟩ := hr'.open' (by rw [List.length_map]; omega)
      have hck := hcell k _ (map_getElem? (xs := ds) (by omega))
      have HV := Lib.hid (val_drop ds k (by omega))
      have hll : (L (val 10 (ds.drop (k + 1)))).length ≤ ds.length := by
        have := L_val_len (ds.drop (k + 1)) (hd.drop _)
        rw [List.length_drop] at this
        omega
      have hdl : ds.getD k 0 < 10 := hd.getD k (by omega)
      clear hcell hr'
      unfold i64v at hck
      generalize ds.getD k 0 = d at *
      generalize hN : val 10 (ds.drop (k + 1)) = N at *
      clear hN
      rw [show (((k + 1 : Nat) : Int) - 1) = (k : Int) from by omega]
      have HG : GrowIn wr 71 u32v 4294967296 10 d w.heap.size a1 c1 (L N) 0 d wr := GrowIn.start ho.r (L_lim N) hdl
      have HB := Lib.hid hB
      clear ho hB
      go_wp2_with fail
      obtain ⟨wo, rfl⟩ : ∃ wo : World, wo = wr := ⟨_, rfl⟩
      go_loopw [5, 6] (fun cv jv wr => ∃ j cy : Nat, j ≤ (L N).length ∧ jv = .int .i64 j ∧ cv = .int .u64 cy ∧ cy < 10 ∧ GrowIn wo 71 u32v 4294967296 10 d w.heap.size a1 c1 (L N) j cy wr) (fun _ jv _ => (L N).length - (intOf jv).toNat)
      case atStart => exact ⟨0, d, by omega, rfl, rfl, hdl, HG⟩
      case round =>
        obtain ⟨j, cy, hj, rfl, rfl, hcy, hin⟩ := hrel
        clear HG
        by_cases hlt : j < (L N).length
        · obtain ⟨g1, x, rfl, hle, hx, hcx, hfr, _, hb, hnext⟩ := hin.step hlt (by omega)
          have hnx := hnext (x * 10 + cy) ((x * 10 + cy) / 4294967296) ((x * 10 + cy) % 4294967296) rfl rfl rfl
          have HN := Lib.hid hnx
          clear hnext hin hnx
          unfold u32v at hcx
          go_wp2_with fail
          go_roundw
          case rel => exact ⟨j + 1, (x * 10 + cy) / 4294967296, by omega, by go_num, by go_num, by omega, HN.out⟩
          case measure => simp [intOf] <;> omega
        · obtain rfl : j = (L N).length := by omega
          obtain ⟨Q, hQ, hQl, hQe, hct', hg⟩ := hin.done (by omega) (L_lim N) (rep_top (by omega) N)
          rw [show val 4294967296 (L N) = N from V_L N] at hQe
          clear hin
          have hB2 : Below w.heap.size w wr := HB.out.grown hg HB.out.size (fun k hk => hQ.blk_ge hk)
          rcases Nat.eq_zero_or_pos cy with h0 | h0
          · subst h0
            rw [rep_zero, List.append_nil] at hQe
            have HQ := Lib.hid (And.intro hQ (And.intro hB2 hQe))
            clear hQ hg hQe hB2
            go_wp2_with fail
            go_roundw
            case rel =>
              refine ⟨k, by omega, rfl, a1, c1, ?_, ?_, HQ.out.2.1⟩
              · rw [HV.out, ← hQl, HQ.out.2.2]; rfl
              · rw [HV.out]
                have h := HQ.out.1.own
                rw [HQ.out.2.2] at h
                exact h
            case measure => simp [intOf] <;> omega
          · have hc0 : (0 : Int) < (cy : Int) := by omega
            have hQ1 := hQ.kept ((Below.refl wr.heap.size wr).alloc (Nat.le_refl _) (.cells #[.int .u32 (cy : Int)] 71))
            have hcell : (wr.alloc (.cells #[.int .u32 (cy : Int)] 71)).cell? ⟨wr.heap.size, 0, none⟩ = some (u32v cy) := (Row.new (E := 71) wr #[.int .u32 (cy : Int)]).cell 0 _ rfl
            have HQ := Lib.hid (And.intro hQe (And.intro hB2 (fun g => hQ.blk_ge (g := g))))
            have hsz : w.heap.size ≤ wr.heap.size := hB2.size
            clear hQ hg hQe hB2
            go_wp2_with (first | (at_builtin; refine wpList_append_one _ rfl (.tmp 45) (.tmp 48) 32 rfl 71 (.int .u32 0) 4 Tryd.underlying32 Tryd.info48 rfl u32v w.heap.size a1 _ _ Q rfl hQ1 hQl ⟨wr.heap.size, 0, none⟩ 1 cy rfl hcell rfl (by unfold maxLen; omega) (by omega) (by simp <;> omega) ?_; intro g' cap' w' hrow' hcap hgrow hg') | fail)
            have e : Q ++ [cy] = L (10 * N + d) := by rw [← Rep.rep_small (b := 4294967296) (by omega) (by omega) (by omega)]; exact HQ.out.1
            have hB3 : Below w.heap.size w w' := (HQ.out.2.1.alloc HQ.out.2.1.size _).grown hgrow (by simp <;> omega) (fun k hk => HQ.out.2.2 k hk)
            rw [e] at hrow'
            have hlen : (L N).length + 1 = (L (10 * N + d)).length := by rw [← e, List.length_append, hQl]; rfl
            have HR := Lib.hid (And.intro hrow' (And.intro hB3 hlen))
            clear hrow' hB3 hlen hgrow hQ1 hcell e
            go_wp2_with fail
            go_roundw
            case rel =>
              refine ⟨k, by omega, rfl, some ⟨g', 0, none⟩, cap', ?_, ?_, HR.out.2.1⟩
              · rw [HV.out, ← HR.out.2.2]
              · rw [HV.out]
                exact ⟨hcap, .inr ⟨g', rfl, hg', HR.out.1⟩⟩
            case measure => simp [intOf] <;> omega

/-- The text of digits, the least one first. -/
def txtD (ds : List Nat) : List UInt8 := if ds = [] then [48] else ds.reverse.map (fun d => UInt8.ofNat (48 + d))
theorem txtD_D (n : Nat) : txtD (D n) = txt n := by
  unfold txtD txt
  by_cases h : n = 0
  · subst h; rfl
  · have hn : D n ≠ [] := fun e => h ((rep_eq_nil (b := 10) (by omega)).1 e)
    rw [if_neg h, if_neg hn]

/-- The text of the digits from k on is there. -/
def TextDIn (w : World) (ds : List Nat) (k : Nat) (ov : Value) (wr : World) : Prop :=
  ∃ (a : Option Addr) (c : Nat), ov = .slice a (ds.length - k) c ∧ OwnR 5 u8v w.heap.size wr a c ((ds.drop k).reverse.map (48 + ·)) ∧ Below w.heap.size w wr

theorem textD_next (ds : List Nat) (k : Nat) (h : k < ds.length) : (ds.drop k).reverse.map (48 + ·) = (ds.drop (k + 1)).reverse.map (48 + ·) ++ [48 + ds.getD k 0] := by
  rw [List.drop_eq_getElem_cons h, List.reverse_cons, List.map_append, getD_lt h]; rfl

end Go.Proofs.YtodedlnpokagfaaDoor


/-
  The document's digits: where they lie; how two stand to one another.
-/
set_option linter.unusedVariables false
set_option linter.unusedSimpArgs false
namespace Go.Proofs.YtodedlnpokagfaaDoor
open Go.RowKit Rep

theorem D_dig (n : Nat) : Dig 10 (D n) := rep_dig (by omega) n
theorem val_D (n : Nat) : val 10 (D n) = n := val_rep (by omega) n
theorem D_len (n k : Nat) : (D n).length ≤ k ↔ n < 10 ^ k := rep_length_le (by omega) n k
theorem D_zero : D 0 = [] := rfl
theorem D_nil {n : Nat} : D n = [] ↔ n = 0 := rep_eq_nil (by omega)
theorem D_len_zero {n : Nat} : (D n).length = 0 ↔ n = 0 := by rw [List.length_eq_zero_iff, D_nil]
theorem D_mono {n m : Nat} (h : n ≤ m) : (D n).length ≤ (D m).length := rep_len_mono (by omega) h

/-- At a (with so much room) lie n's digits. -/
def DAt (w : World) (a : Option Addr) (c n : Nat) : Prop := Reads w a ((D n).map i64v) ∧ (D n).length ≤ c ∧ c ≤ maxLen
theorem DAt.zero (w : World) (a : Option Addr) (c : Nat) (hc : c ≤ maxLen) : DAt w a c 0 := ⟨.inl rfl, by simp [D_zero], hc⟩
theorem DAt.kept {w w' : World} {a : Option Addr} {c n : Nat} (h : DAt w a c n) (hb : Below w.heap.size w w') : DAt w' a c n := ⟨h.1.kept hb, h.2⟩
theorem DAt.drewN {w : World} {a : Option Addr} {c n : Nat} (h : DAt w a c n) (k : Nat) : DAt (w.drewN k) a c n := h
/-- A call gives n's digits, and leaves what lay below B as it was. -/
def GivesD (B n : Nat) (w : World) (e : Ending) (w' : World) : Prop := ∃ a c, e = .returned (.slice a (D n).length c) ∧ DAt w' a c n ∧ Below B w w' ∧ (n = 0 ∨ ∀ g off, a = some ⟨g, off, none⟩ → B ≤ g)
theorem GivesD.trans {B n : Nat} {w w1 w2 : World} {e : Ending} (h : GivesD w1.heap.size n w1 e w2) (hb : Below B w w1) (hB : B ≤ w1.heap.size) : GivesD B n w e w2 := by
  obtain ⟨a, c, he, hd, hb2, hn⟩ := h
  exact ⟨a, c, he, hd, hb.trans (hb2.mono hB), hn.imp id fun h g off e => Nat.le_trans hB (h g off e)⟩

/-- Cut of digits. -/
theorem cut_quiet {v : Nat} {w1 : World} {a : Option Addr} {c : Nat} {O : List Nat} (hr : Reads w1 a (O.map i64v)) (hl : O.length ≤ c) (hc : c ≤ maxLen) (hd : Dig 10 O) (hv : val 10 O = v) :
    Calls Tryd.prog 65 #[.slice a O.length c] w1 fun e w' => e = .returned (.slice a (D v).length c) ∧ DAt w1 a c v ∧ w1 = w' := by
  refine (Cut_any a c O w1 hr hl hc).mono ?_
  rintro e w2 ⟨rfl, rfl⟩
  have hs : strip O = D v := by rw [← hv]; exact strip_eq (by omega) hd
  refine ⟨by rw [hs], ⟨?_, ?_, hc⟩, rfl⟩
  · rw [← hs]
    have := hr.take (cutAt O O.length)
    rwa [← List.map_take] at this
  · rw [← hs]
    have := cutAt_le O O.length
    rw [strip_length]
    omega
/-- Cut of digits of one's own. -/
theorem cut_D {B v : Nat} {w w1 : World} {a : Option Addr} {c : Nat} {O : List Nat} (hr : Reads w1 a (O.map i64v)) (hl : O.length ≤ c) (hc : c ≤ maxLen) (hd : Dig 10 O) (hv : val 10 O = v) (hb : Below B w w1) (hB : v = 0 ∨ ∀ g off, a = some ⟨g, off, none⟩ → B ≤ g) :
    Calls Tryd.prog 65 #[.slice a O.length c] w1 (GivesD B v w) := by
  refine (cut_quiet hr hl hc hd hv).mono ?_
  rintro e w2 ⟨rfl, h, rfl⟩
  exact ⟨a, c, rfl, h, hb, hB⟩

theorem cmp_partB {b : Nat} {xs ys : List Nat} {i : Nat} (hx : Dig b xs) (hy : Dig b ys) (hl : ys.length = xs.length) (hi : i < xs.length) (hd : xs.drop (i + 1) = ys.drop (i + 1)) (hne : xs.getD i 0 ≠ ys.getD i 0) :
    cmpI (val b xs) (val b ys) = cmpI (xs.getD i 0) (ys.getD i 0) := by
  have e1 := val_take_drop b i xs (by omega)
  have e2 := val_take_drop b i ys (by omega)
  rw [drop_cons _ xs i hi] at e1
  rw [drop_cons _ ys i (by omega), ← hd] at e2
  have b1 := val_lt (hx.take i)
  have b2 := val_lt (hy.take i)
  rw [List.length_take, Nat.min_eq_left (by omega)] at b1 b2
  rw [Nat.mul_add] at e1 e2
  generalize b ^ i * (b * val b (xs.drop (i + 1))) = t at *
  generalize b ^ i = p at *
  have key : ∀ {a b p : Nat}, a < b → p * a + p ≤ p * b := fun {a b p} h => by
    have := Nat.mul_le_mul_left p (show a + 1 ≤ b from h)
    rwa [Nat.mul_add, Nat.mul_one] at this
  rcases Nat.lt_or_gt_of_ne hne with h | h
  · have hk := key (p := p) h
    unfold cmpI
    rw [if_pos (by omega), if_pos (by omega)]
  · have hk := key (p := p) h
    unfold cmpI
    rw [if_neg (by omega), if_neg (by omega), if_neg (by omega), if_neg (by omega)]
theorem cmpI_self (a : Int) : cmpI a a = 0 := by unfold cmpI; rw [if_neg (by omega), if_pos rfl]
theorem cmpD_len {n m : Nat} (h : (D n).length ≠ (D m).length) : cmpI (D n).length (D m).length = cmpI n m := by
  have key : ∀ {n m : Nat}, (D n).length < (D m).length → n < m := fun {n m} h => by
    have h1 : ¬ m ≤ n := fun hle => by have := D_mono hle; omega
    omega
  unfold cmpI
  rcases Nat.lt_or_gt_of_ne h with h | h
  · have := key h
    rw [if_pos (by omega), if_pos (by omega)]
  · have := key h
    rw [if_neg (by omega), if_neg (by omega), if_neg (by omega), if_neg (by omega)]

set_option maxRecDepth 100000 in
set_option maxHeartbeats 1000000 in
theorem CmpD_any (ax ay : Option Addr) (cx cy n m : Nat) (w : World) (hx : DAt w ax cx n) (hy : DAt w ay cy m) (lx : (D n).length ≤ 1073741824) (ly : (D m).length ≤ 1073741824) :
    Calls Tryd.prog 75 #[.slice ax (D n).length cx, .slice ay (D m).length cy] w (Draws (.int .i64 (cmpI n m)) w) := by
  by_cases hl : (D n).length = (D m).length
  · have hb : (((D n).length : Int) != ((D m).length : Int)) = false := by rw [hl]; simp
    have hrx := hx.1
    have hry := hy.1
    have hdx := D_dig n
    have hdy := D_dig m
    have hv : cmpI (n : Int) (m : Int) = cmpI (val 10 (D n)) (val 10 (D m)) := by rw [val_D, val_D]
    have HV := Lib.hid hv
    rw [hv]
    have HL := Lib.hid hl
    have hlle : (D m).length ≤ (D n).length := by omega
    have hlge : (D n).length ≤ (D m).length := by omega
    clear hv hl hx hy HV
    generalize D n = xs at *
    generalize D m = ys at *
    obtain ⟨r, hr⟩ : ∃ r, cmpI (val 10 xs) (val 10 ys) = r := ⟨_, rfl⟩
    rw [hr]
    have HR := Lib.hid hr
    clear hr
    go_enter Tryd.func75, Tryd.ntmps75
    go_wp2_with fail
    go_loopw [5] (fun i wr => ∃ k nd : Nat, k ≤ xs.length ∧ i = .int .i64 ((k : Int) - 1) ∧ wr = w.drewN nd ∧ Hid (xs.drop k = ys.drop k)) (fun i _ => (intOf i + 1).toNat)
    case atStart => exact ⟨xs.length, 0, Nat.le_refl _, rfl, rfl, Lib.hid (by rw [List.drop_of_length_le (Nat.le_refl _), List.drop_of_length_le (by omega)])⟩
    case round =>
      obtain ⟨k, nd, hk, rfl, rfl, hd⟩ := hrel
      cases k with
      | zero =>
        have he : r = 0 := by
          have h := hd.out
          rw [List.drop_zero, List.drop_zero] at h
          rw [← HR.out, h, cmpI_self]
        have HE := Lib.hid he
        clear he hd
        go_wp2_with fail
        go_ret
        exact ⟨by rw [HE.out]; rfl, nd, rfl⟩
      | succ k =>
        obtain ⟨g1, o1, rfl, hg1, hc1⟩ := hrx.open' (by rw [List.length_map]; omega)
        obtain ⟨g2, o2, rfl, hg2, hc2⟩ := hry.open' (by rw [List.length_map]; omega)
        have hck1 := hc1 k _ (map_getElem? (xs := xs) (by omega))
        have hck2 := hc2 k _ (map_getElem? (xs := ys) (by omega))
        have HP := Lib.hid (fun (hne : xs.getD k 0 ≠ ys.getD k 0) => (cmp_partB hdx hdy HL.out.symm (by omega) hd.out hne).symm.trans HR.out)
        have HS := Lib.hid (fun (he : xs.getD k 0 = ys.getD k 0) => drop_same (i := k) (by omega) (by omega) hd.out he)
        unfold i64v at hck1 hck2
        clear hc1 hc2 hrx hry hd
        generalize xs.getD k 0 = x at *
        generalize ys.getD k 0 = y at *
        rw [show (((k + 1 : Nat) : Int) - 1) = (k : Int) from by omega]
        have hk0 : (0 : Int) ≤ (k : Int) := by omega
        have hkx : (k : Int) < (xs.length : Int) := by omega
        have hky : (k : Int) < (ys.length : Int) := by omega
        rcases Nat.lt_trichotomy x y with hlt | hlt | hlt
        · have he : r = -1 := by rw [← HP.out (by omega)]; unfold cmpI; rw [if_pos (by omega)]
          have HE := Lib.hid he
          have hlt' : (x : Int) < (y : Int) := by omega
          clear he HP HS
          go_wp2_with fail
          go_quiet (fail)
          go_wp2_with fail
          go_ret
          exact ⟨by rw [HE.out]; rfl, _, by first | rw [drewN_add] | rfl⟩
        · subst hlt
          have HD := Lib.hid (HS.out rfl)
          clear HP HS
          go_wp2_with fail
          go_quiet (fail)
          go_wp2_with fail
          go_quiet (fail)
          go_wp2_with fail
          go_roundw
          case rel => exact ⟨k, _, by omega, rfl, by first | rw [drewN_add, drewN_add] | rw [drewN_add] | rfl, HD⟩
          case measure => simp [intOf]
        · have he : r = 1 := by rw [← HP.out (by omega)]; unfold cmpI; rw [if_neg (by omega), if_neg (by omega)]
          have HE := Lib.hid he
          have hlt' : ¬ (x : Int) < (y : Int) := by omega
          have hgt' : (y : Int) < (x : Int) := by omega
          clear he HP HS
          go_wp2_with fail
          go_quiet (fail)
          go_wp2_with fail
          go_quiet (fail)
          go_wp2_with fail
          go_ret
          exact ⟨by rw [HE.out]; rfl, _, by first | rw [drewN_add, drewN_add] | rw [drewN_add] | rfl⟩
  · have hb : (((D n).length : Int) != ((D m).length : Int)) = true := by rw [bne_iff_ne]; omega
    rw [← cmpD_len hl]
    clear hx hy
    generalize (D n).length = p at *
    generalize (D m).length = q at *
    by_cases hlt : p < q
    · have hlt' : (p : Int) < (q : Int) := by omega
      have he : cmpI (p : Int) (q : Int) = -1 := by unfold cmpI; rw [if_pos hlt']
      rw [he]
      clear he hl
      go_enter Tryd.func75, Tryd.ntmps75
      go_wp2_with fail
      go_ret
      exact ⟨rfl, 0, rfl⟩
    · have hlt' : ¬ (p : Int) < (q : Int) := by omega
      have he : cmpI (p : Int) (q : Int) = 1 := by unfold cmpI; rw [if_neg hlt', if_neg (by omega)]
      rw [he]
      clear he hl
      go_enter Tryd.func75, Tryd.ntmps75
      go_wp2_with fail
      go_ret
      exact ⟨rfl, 0, rfl⟩
end Go.Proofs.YtodedlnpokagfaaDoor

