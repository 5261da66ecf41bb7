/-
  Layer 7: a row of tokens; how the token that begins with a byte is read, whatever it is.
-/
import Derived.Test.YtgojipnhnmigpaaLxWays
set_option linter.unusedVariables false
set_option linter.unusedSimpArgs false
namespace Go.Proofs.Ytgojipnhnmigpaa
open Go.RowKit Lx

def tcell (t : Tok) : List Value := tk3 t.kind (txt t.text) t.pos
def tcells (l : List Tok) : List Value := l.flatMap tcell
theorem tcells_len (l : List Tok) : (tcells l).length = l.length * 3 := by
  induction l with
  | nil => rfl
  | cons t l ih => simp only [tcells, List.flatMap_cons, List.length_append, List.length_cons] at ih ⊢; rw [ih]; simp [tcell, tk3]; omega
theorem tcells_snoc (l : List Tok) (t : Tok) : tcells (l ++ [t]) = tcells l ++ tcell t := by simp [tcells]
theorem tcells_app (l m : List Tok) : tcells (l ++ m) = tcells l ++ tcells m := by simp [tcells]
theorem tcells_one (l : List Tok) : ∀ v ∈ tcells l, v.oneCell' = true := by
  intro v hv
  obtain ⟨t, _, ht⟩ := List.mem_flatMap.1 hv
  simp [tcell, tk3] at ht
  rcases ht with rfl | rfl | rfl <;> rfl
instance : Inhabited Tok := ⟨⟨0, [], 0⟩⟩
theorem tcells_at : ∀ (l : List Tok) (k : Nat) (_ : k < l.length) (j : Nat) (v : Value), (tcell (l.getD k default))[j]? = some v → (tcells l)[3 * k + j]? = some v
  | t :: l, 0, _, j, v, hv => by
    simp only [List.getD_cons_zero] at hv
    have hj : j < (tcell t).length := (List.getElem?_eq_some_iff.1 hv).1
    simp only [tcells, List.flatMap_cons, Nat.mul_zero, Nat.zero_add]
    rw [List.getElem?_append_left hj]
    exact hv
  | t :: l, k + 1, hk, j, v, hv => by
    have ih := tcells_at l k (by simpa using hk) j v (by simpa using hv)
    have ht : (tcell t).length = 3 := rfl
    simp only [tcells, List.flatMap_cons] at ih ⊢
    rw [List.getElem?_append_right (by omega), ht, show 3 * (k + 1) + j - 3 = 3 * k + j by omega]
    exact ih
theorem info_token : (Try.prog.info? 35).map (fun i => (i.zero, i.size, i.bytes)) = some (some (.agg #[.int .i64 0, .string { data := #[] }, .int .i64 0]), 3, 32) := by kernel_rfl
theorem info_token' : ∃ i, Try.prog.info? 35 = some i ∧ i.zero = some (.agg #[.int .i64 0, .string { data := #[] }, .int .i64 0]) ∧ i.size = 3 ∧ i.bytes = 32 := by
  have hi := info_token
  cases hq : Try.prog.info? 35 with
  | none => rw [hq] at hi; cases hi
  | some q => rw [hq] at hi; simp at hi; exact ⟨q, rfl, hi.1, hi.2.1, hi.2.2⟩
/-- Tokens in memory. -/
def ToksAt (w : World) (a : Option Addr) (l : List Tok) : Prop := l = [] ∨ ∃ g off, a = some ⟨g, off, none⟩ ∧ w.rangeAt g off (tcells l)
/-- A row of tokens, in blocks from B on. -/
def RowT (w : World) (B : Nat) (v : Value) (l : List Tok) : Prop := w.ownsRow B 35 3 v l.length (tcells l)
section
variable {w w' : World} {B : Nat} {v : Value} {l : List Tok} {a : Option Addr}
theorem ToksAt.kept (h : ToksAt w a l) (hb : Below w.heap.size w w') : ToksAt w' a l := by
  rcases h with e | ⟨g, off, e, h⟩
  · exact .inl e
  · exact .inr ⟨g, off, e, fun j u hu => (hb.cell (p := ⟨g, off + j, none⟩) (World.block_lt_of_cell? _ _ (h j u hu))).trans (h j u hu)⟩
theorem RowT.nil (w : World) (B : Nat) : RowT w B (.slice none 0 0) [] := World.ownsRow_nil _ _ _ _
theorem RowT.value (h : RowT w B v l) : ∃ a c, v = .slice a l.length c ∧ ToksAt w a l ∧ l.length ≤ c ∧ c ≤ maxLen ∧ (a = none → c = 0) ∧ ∀ x, a = some x → B ≤ x.block ∧ x.spot = none := by
  obtain ⟨h1, ⟨rfl, h2⟩ | ⟨g, cap, cur, rfl, hb, hg, hc, hm, hs, ht⟩⟩ := h
  · exact ⟨none, 0, by rw [h2], .inl (List.eq_nil_of_length_eq_zero h2), by omega, by unfold maxLen; omega, fun _ => rfl, fun x hx => by cases hx⟩
  · refine ⟨_, _, rfl, .inr ⟨g, 0, rfl, fun j u hu => ?_⟩, hc, hm, fun h => by (cases h), fun x hx => by cases hx; exact ⟨hb, rfl⟩⟩
    rw [← ht, List.getElem?_take] at hu
    split at hu
    · rw [Nat.zero_add]
      simp only [World.cell?, hg]
      simpa using hu
    · cases hu
theorem RowT.chg {S : Nat → Prop} (h : RowT w B v l) (hc : Chg S w w') (hS : ∀ k, B ≤ k → k < w.heap.size → ¬ S k) : RowT w' B v l := by
  obtain ⟨h1, h2 | ⟨g, cap, cur, hv, hb, hg, r⟩⟩ := h
  · exact ⟨h1, .inl h2⟩
  · have hl := (Array.getElem?_eq_some_iff.1 hg).1
    exact ⟨h1, .inr ⟨g, cap, cur, hv, hb, (hc.block g hl (hS g hb hl)).trans hg, r⟩⟩
theorem RowT.grown_chg (h : RowT w B v l) (hg : w.grownBy w' v.ownBlock) : Chg (fun k => B ≤ k) w w' := .of_grown hg fun k hk => (World.ownsRow.lt h k hk).1
/-- One token more, as an operation. -/
theorem wpList_appT {ops : Array Oper} {rest : List Oper} {o : Oper} {aa : Act} {Q : Exit → Act → World → Prop} (hgd : o.guard = none) (s x : Operand)
    (ho : o.op = .call { callee := .builtin .append, args := #[s, x], argTypes := #[22, 22] }) (B : Nat) (v : Value) (l : List Tok) (hv : aa.eval s = v) (h : RowT w B v l)
    (ad : Addr) (c : Nat) (t : Tok) (hx : aa.eval x = .slice (some ad) 1 c) (hs : ∀ j u, (tcell t)[j]? = some u → w.cell? (ad.add j) = some u) (hl : l.length + 1 ≤ 1000000) (hB : B ≤ w.heap.size)
    (hk : ∀ v' w', RowT w' B v' (l ++ [t]) → w.grownBy w' v.ownBlock → wpList Try.prog ops Q rest (aa.put o.dst v') w') : wpList Try.prog ops Q (o :: rest) aa w := by
  obtain ⟨i, h1, h2, h3, h4⟩ := info_token'
  refine wpList_append_own w hgd s x 22 ho B 35 i _ 3 32 Try.underlying22 h1 h2 h3 h4 rfl (by omega) v l.length (tcells l) hv h ad 1 c (tcell t) hx rfl hs (fun u hu => tcells_one [t] u (by simpa [tcells] using hu)) (by unfold maxLen; omega) (by omega) hB ?_
  intro v' w' q2 q3 _
  refine hk v' w' ?_ q3
  unfold RowT
  rw [List.length_append, tcells_snoc]
  exact q2
end
theorem tokC_nil {bs : List Int} {i : Nat} {c : Int} (h1 : c ≠ 40) (h2 : c ≠ 41) (h3 : c ≠ 124) (h4 : c ≠ 34) (h5 : c ≠ 58) (h6 : digitB c = false) (h7 : innerB c = false) : tokC bs i c = .bad i := by
  unfold tokC
  simp [h1, h2, h3, h4, h5, h6, h7]
/-- What the table has for a byte. -/
def Way (x : Value) (R : Nat) (a : Option Addr) (c : Nat) (bs : List Int) (i : Nat) (v : Value) : Prop :=
  (v = .nilFunc ∧ tokP bs i = .bad i) ∨ ∃ fid, v = fv fid x ∧ (∀ args w, (callFunc fid args).run Try.prog w = .ok (.enter fid args) w) ∧ ∀ W, RdAt W R a c bs i → Calls Try.prog fid #[.pointer (some ⟨R, 0, none⟩)] W (Gives W R a c bs (tokP bs i))
theorem enters_paren (args : Array Value) (w : World) : (callFunc 29 args).run Try.prog w = .ok (.enter 29 args) w := by
  have := Try.func29
  go_simp
theorem enters_bars (args : Array Value) (w : World) : (callFunc 30 args).run Try.prog w = .ok (.enter 30 args) w := by
  have := Try.func30
  go_simp
theorem enters_keyword (args : Array Value) (w : World) : (callFunc 31 args).run Try.prog w = .ok (.enter 31 args) w := by
  have := Try.func31
  go_simp
theorem enters_string (args : Array Value) (w : World) : (callFunc 32 args).run Try.prog w = .ok (.enter 32 args) w := by
  have := Try.func32
  go_simp
theorem enters_number (args : Array Value) (w : World) : (callFunc 34 args).run Try.prog w = .ok (.enter 34 args) w := by
  have := Try.func34
  go_simp
theorem enters_symbol (args : Array Value) (w : World) : (callFunc 33 args).run Try.prog w = .ok (.enter 33 args) w := by
  have := Try.func33
  go_simp
theorem way_any {x : Value} {R : Nat} {a : Option Addr} {c : Nat} {bs : List Int} {i : Nat} (hi : i < bs.length) (h0 : 0 ≤ bs.getD i 0) : Way x R a c bs i (wayAt x (bs.getD i 0).toNat) := by
  have hget : bs[i]? = some (bs.getD i 0) := by simp [hi]
  have hcast : ((bs.getD i 0).toNat : Int) = bs.getD i 0 := by omega
  unfold wayAt
  rw [hcast]
  have htok : tokP bs i = tokC bs i (bs.getD i 0) := rfl
  unfold Way
  rw [htok]
  generalize bs.getD i 0 = b at *
  by_cases hd : digitB b = true
  · rw [if_pos hd]
    have hb : 48 ≤ b ∧ b ≤ 57 := by simpa [digitB] using hd
    refine .inr ⟨_, rfl, enters_number, fun W h => ?_⟩
    have e : tokC bs i b = numP bs i := by
      unfold tokC
      rw [if_neg (by omega), if_neg (by omega), if_neg (by omega), if_neg (by omega), if_neg (by omega), if_pos hd]
    rw [e]
    exact number_any h (by rw [sees_some hget]; exact hd)
  · rw [if_neg hd]
    by_cases hn : innerB b = true
    · rw [if_pos hn]
      have hne : b ≠ 40 ∧ b ≠ 41 ∧ b ≠ 124 ∧ b ≠ 34 ∧ b ≠ 58 := by
        refine ⟨?_, ?_, ?_, ?_, ?_⟩ <;> rintro rfl <;> revert hn <;> decide
      refine .inr ⟨_, rfl, enters_symbol, fun W h => ?_⟩
      have e : tokC bs i b = .tok 3 (Lx.seg bs i (run innerB bs i)) (run innerB bs i) := by
        unfold tokC
        rw [if_neg hne.1, if_neg hne.2.1, if_neg hne.2.2.1, if_neg hne.2.2.2.1, if_neg hne.2.2.2.2, if_neg hd, if_pos hn]
      rw [e]
      exact symbol_any h
    · rw [if_neg hn]
      unfold baseAt
      by_cases h40 : b = 40
      · subst h40
        rw [if_pos (by decide)]
        exact .inr ⟨_, rfl, enters_paren, fun W h => open_any h hget⟩
      by_cases h41 : b = 41
      · subst h41
        rw [if_pos (by decide)]
        exact .inr ⟨_, rfl, enters_paren, fun W h => close_any h hget⟩
      rw [if_neg (by omega)]
      by_cases h124 : b = 124
      · subst h124
        rw [if_pos (by decide)]
        refine .inr ⟨_, rfl, enters_bars, fun W h => ?_⟩
        by_cases he : bs[run quotedB bs (i + 1)]? = some 124
        · have e : tokC bs i 124 = .tok 3 (Lx.seg bs (i + 1) (run quotedB bs (i + 1))) (run quotedB bs (i + 1) + 1) := by simp [tokC, he]
          rw [e]
          exact quoted_yes h hget he
        · have e : tokC bs i 124 = .bad (run quotedB bs (i + 1)) := by simp [tokC, he]
          rw [e]
          exact quoted_no h hget he
      rw [if_neg (by omega)]
      by_cases h58 : b = 58
      · subst h58
        rw [if_pos (by decide)]
        refine .inr ⟨_, rfl, enters_keyword, fun W h => ?_⟩
        by_cases he : run innerB bs (i + 1) = i + 1
        · have e : tokC bs i 58 = .bad (i + 1) := by simp [tokC, he]
          rw [e]
          exact keyword_no h hget he
        · have e : tokC bs i 58 = .tok 6 (Lx.seg bs (i + 1) (run innerB bs (i + 1))) (run innerB bs (i + 1)) := by simp [tokC, he]
          rw [e]
          exact keyword_yes h hget he
      rw [if_neg (by omega)]
      by_cases h34 : b = 34
      · subst h34
        rw [if_pos (by decide)]
        refine .inr ⟨_, rfl, enters_string, fun W h => ?_⟩
        have e : tokC bs i 34 = litP bs (i + 1) [] := by simp [tokC]
        rw [e]
        exact literal_any h hget
      rw [if_neg (by omega)]
      exact .inl ⟨rfl, tokC_nil h40 h41 h124 h34 h58 (by simpa using hd) (by simpa using hn)⟩
end Go.Proofs.Ytgojipnhnmigpaa

