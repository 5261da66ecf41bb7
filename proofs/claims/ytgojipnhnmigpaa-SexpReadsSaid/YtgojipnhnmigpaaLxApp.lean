/-
  Layer 7: a row of bytes of the call's own, to which is appended.
-/
import Derived.Test.YtgojipnhnmigpaaLxTok
import Derived.Laws.AppendOwnNone
set_option linter.unusedVariables false
set_option linter.unusedSimpArgs false
namespace Go.Proofs.Ytgojipnhnmigpaa
open Go.RowKit Lx

theorem info_u8 : (Try.prog.info? 5).map (fun i => (i.zero, i.size, i.bytes)) = some (some (.int .u8 0), 1, 1) := by kernel_rfl
/-- A row of bytes, in blocks from B on. -/
def Row8 (w : World) (B : Nat) (v : Value) (bs : List Int) : Prop := w.ownsRow B 5 1 v bs.length (bys bs)
section
variable {w w' : World} {B : Nat} {v : Value} {bs : List Int}
theorem Row8.nil (w : World) (B : Nat) : Row8 w B (.slice none 0 0) [] := World.ownsRow_nil _ _ _ _
theorem Row8.value (h : Row8 w B v bs) : ∃ a c, v = .slice a bs.length c ∧ BytesAt w a bs ∧ bs.length ≤ c := by
  obtain ⟨h1, ⟨rfl, h2⟩ | ⟨g, cap, cur, rfl, hb, hg, hc, hm, hs, ht⟩⟩ := h
  · refine ⟨none, 0, by rw [h2], .inl (List.eq_nil_of_length_eq_zero h2), by omega⟩
  · refine ⟨_, _, rfl, .inr ⟨g, 0, rfl, fun j u hu => ?_⟩, hc⟩
    rw [← ht, List.getElem?_take] at hu
    split at hu
    · rw [Nat.zero_add]
      simp only [World.cell?, hg]
      simpa using hu
    · cases hu
theorem Row8.chg {S : Nat → Prop} (h : Row8 w B v bs) (hc : Chg S w w') (hS : ∀ k, B ≤ k → k < w.heap.size → ¬ S k) : Row8 w' B v bs := by
  obtain ⟨h1, h2 | ⟨g, cap, cur, hv, hb, hg, r⟩⟩ := h
  · exact ⟨h1, .inl h2⟩
  · have hl := (Array.getElem?_eq_some_iff.1 hg).1
    exact ⟨h1, .inr ⟨g, cap, cur, hv, hb, (hc.block g hl (hS g hb hl)).trans hg, r⟩⟩
theorem Row8.grown_chg (h : Row8 w B v bs) (hg : w.grownBy w' v.ownBlock) : Chg (fun k => B ≤ k) w w' := .of_grown hg fun k hk => (World.ownsRow.lt h k hk).1
theorem bytes_src {src : Option Addr} {news : List Int} {x : Addr} (hs : BytesAt w src news) (hx : src = some x) : ∀ j u, (bys news)[j]? = some u → w.cell? (x.add j) = some u := by
  intro j u hu
  rcases hs with e | ⟨g, off, e, h⟩
  · subst e; simp [bys] at hu
  · rw [hx] at e
    cases e
    rw [Addr.add_mid]
    exact h j u hu
theorem info_u8' : ∃ i, Try.prog.info? 5 = some i ∧ i.zero = some (.int .u8 0) ∧ i.size = 1 ∧ i.bytes = 1 := by
  have hi := info_u8
  cases hq : Try.prog.info? 5 with
  | none => rw [hq] at hi; cases hi
  | some q => rw [hq] at hi; simp at hi; exact ⟨q, rfl, hi.1, hi.2.1, hi.2.2⟩
theorem Row8.append (h : Row8 w B v bs) (src : Option Addr) (c : Nat) (news : List Int) (hs : BytesAt w src news) {x : Addr} (hx : src = some x) (hl : bs.length + news.length ≤ 1000000) (hB : B ≤ w.heap.size) :
    ∃ v' w', (Builtin.append_ #[43, 43] 43 #[v, .slice src news.length c]).run Try.prog w = .ok v' w' ∧ Row8 w' B v' (bs ++ news) ∧ w.grownBy w' v.ownBlock := by
  obtain ⟨i, h1, h2, h3, h4⟩ := info_u8'
  obtain ⟨v', w', q1, q2, q3, _⟩ := run_append_own (P := Try.prog) w B 43 43 5 i (.int .u8 0) 1 1 Try.underlying43 h1 h2 h3 h4 rfl (by omega) v bs.length (bys bs) h x news.length c (bys news) (by rw [bys_len, Nat.mul_one]) (bytes_src hs hx) (bys_one news) (by unfold maxLen; omega) (by omega) hB
  subst hx
  refine ⟨v', w', q1, ?_, q3⟩
  unfold Row8
  rw [List.length_append, bys_app]
  exact q2
/-- As an operation. -/
theorem wpList_app8 {ops : Array Oper} {rest : List Oper} {o : Oper} {a : Act} {Q : Exit → Act → World → Prop} (hgd : o.guard = none) (s x : Operand)
    (ho : o.op = .call { callee := .builtin .append, args := #[s, x], argTypes := #[43, 43] }) (B : Nat) (v : Value) (bs : List Int) (hv : a.eval s = v) (h : Row8 w B v bs)
    (src : Option Addr) (n c : Nat) (news : List Int) (hx : a.eval x = .slice src n c) (hn : news.length = n) (hs : BytesAt w src news) (ad : Addr) (hsm : src = some ad) (hl : bs.length + news.length ≤ 1000000) (hB : B ≤ w.heap.size)
    (hk : ∀ v' w', Row8 w' B v' (bs ++ news) → w.grownBy w' v.ownBlock → wpList Try.prog ops Q rest (a.put o.dst v') w') : wpList Try.prog ops Q (o :: rest) a w := by
  obtain ⟨i, h1, h2, h3, h4⟩ := info_u8'
  subst hn
  refine wpList_append_own w hgd s x 43 ho B 5 i (.int .u8 0) 1 1 Try.underlying43 h1 h2 h3 h4 rfl (by omega) v bs.length (bys bs) hv h ad news.length c (bys news) (by rw [hx, hsm]) (by rw [bys_len, Nat.mul_one]) (bytes_src hs hsm) (bys_one news) (by unfold maxLen; omega) (by omega) hB ?_
  intro v' w' q2 q3 _
  refine hk v' w' ?_ q3
  unfold Row8
  rw [List.length_append, bys_app]
  exact q2
end
end Go.Proofs.Ytgojipnhnmigpaa

