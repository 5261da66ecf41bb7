/-
  Layer 7: a reader in memory: its text, and where it stands.
-/
import Derived.Test.YtgojipnhnmigpaaLxByte
import Derived.Deep.Draws
import Derived.Deep.MidRow
import Derived.Deep.QuietTactic
import Derived.Deep.WholeRow
import Derived.Deep.RegionHeld3
import Derived.BigQuiet
import Derived.Laws.StructEq
import Derived.Laws.CopyRow
set_option linter.unusedVariables false
set_option linter.unusedSimpArgs false
namespace Go.Proofs.Ytgojipnhnmigpaa
open Go.RowKit Lx

def b8 (n : Int) : Value := .int .u8 n
def bys (l : List Int) : List Value := l.map b8
theorem bys_len (l : List Int) : (bys l).length = l.length := by simp [bys]
theorem bys_one (l : List Int) : ∀ v ∈ bys l, v.oneCell' = true := by
  intro v hv
  obtain ⟨x, _, rfl⟩ := List.mem_map.1 hv
  rfl
theorem bys_app (a b : List Int) : bys (a ++ b) = bys a ++ bys b := by simp [bys]
theorem bys_seg (bs : List Int) (i j : Nat) : bys (seg bs i j) = ((bys bs).drop i).take (j - i) := by simp [bys, seg, List.map_take, List.map_drop]

/-- Of what was there only blocks of S have changed. -/
structure Chg (S : Nat → Prop) (w w' : World) : Prop where
  os : w'.os = w.os
  tape : w'.tape = w.tape
  output : w'.output = w.output
  size : w.heap.size ≤ w'.heap.size
  block : ∀ k, k < w.heap.size → ¬ S k → w'.heap[k]? = w.heap[k]?
section
variable {w w1 w2 : World} {S : Nat → Prop}
theorem Chg.refl (S : Nat → Prop) (w : World) : Chg S w w := ⟨rfl, rfl, rfl, Nat.le_refl _, fun _ _ _ => rfl⟩
theorem Chg.of_below (h : Below w.heap.size w w1) : Chg S w w1 := ⟨h.os, h.tape, h.output, h.size, fun k hk _ => h.block k hk⟩
theorem Chg.of_grown {r : Option Nat} (h : w.grownBy w1 r) (hg : ∀ k, r = some k → S k) : Chg S w w1 := ⟨h.os, h.tape, h.output, h.size, fun k hk hS => h.block k hk (fun e => hS (hg k e.symm))⟩
theorem Chg.trans (h : Chg S w w1) (k : Chg (fun j => S j ∨ w.heap.size ≤ j) w1 w2) : Chg S w w2 :=
  ⟨k.os.trans h.os, k.tape.trans h.tape, k.output.trans h.output, Nat.le_trans h.size k.size, fun j hj hS => (k.block j (Nat.lt_of_lt_of_le hj h.size) (fun e => by rcases e with e | e; exact hS e; omega)).trans (h.block j hj hS)⟩
theorem Chg.mono {S' : Nat → Prop} (h : Chg S w w1) (hS : ∀ k, k < w.heap.size → S k → S' k) : Chg S' w w1 := ⟨h.os, h.tape, h.output, h.size, fun k hk hn => h.block k hk (fun e => hn (hS k hk e))⟩
theorem Chg.below {B : Nat} (h : Chg S w w1) (hS : ∀ k, S k → B ≤ k) (hB : B ≤ w.heap.size) : Below B w w1 := ⟨h.os, h.tape, h.output, h.size, fun k hk => h.block k (by omega) (fun e => by have := hS k e; omega)⟩
theorem Chg.drew : Chg S w w.drew := .of_below ((Below.refl _ _).drew)
theorem Chg.step {w w1 w2 : World} (h : Chg S w w1) (k : Chg S w1 w2) : Chg S w w2 := h.trans (k.mono fun _ _ hs => .inl hs)
end
theorem heap_setCells_other (b : Nat) : ∀ (vs : List Value) (o : Nat) (w : World) (k : Nat), k ≠ b → (w.setCells b o vs).heap[k]? = w.heap[k]?
  | [], _, _, _, _ => rfl
  | v :: r, o, w, k, h => by rw [World.setCells, heap_setCells_other b r (o + 1) _ k h, heap_setCell_other _ _ _ _ h]
theorem size_setCells (b : Nat) : ∀ (vs : List Value) (o : Nat) (w : World), (w.setCells b o vs).heap.size = w.heap.size
  | [], _, _ => rfl
  | v :: r, o, w => by rw [World.setCells, size_setCells b r]; simp [World.setCell]
theorem chg_setCells {S : Nat → Prop} {b : Nat} (hS : S b) (w : World) (o : Nat) (vs : List Value) : Chg S w (w.setCells b o vs) := by
  have h : ∀ (vs : List Value) (o : Nat) (w : World), (w.setCells b o vs).os = w.os ∧ (w.setCells b o vs).tape = w.tape ∧ (w.setCells b o vs).output = w.output := by
    intro vs
    induction vs with
    | nil => intro o w; exact ⟨rfl, rfl, rfl⟩
    | cons v r ih => intro o w; rw [World.setCells]; exact ih (o + 1) (w.setCell ⟨b, o, none⟩ v)
  obtain ⟨h1, h2, h3⟩ := h vs o w
  exact ⟨h1, h2, h3, by rw [size_setCells]; exact Nat.le_refl _, fun k _ hk => heap_setCells_other b vs o w k (fun e => hk (e ▸ hS))⟩
theorem chg_setCell {S : Nat → Prop} {b : Nat} (hS : S b) (w : World) (o : Nat) (v : Value) : Chg S w (w.setCell ⟨b, o, none⟩ v) := chg_setCells hS w o [v]
theorem chg_alloc {S : Nat → Prop} (w : World) (o : Obj) : Chg S w (w.alloc o) := .of_below ((Below.refl _ _).alloc (Nat.le_refl _) _)
theorem heap_drew' (w : World) (k : Nat) : w.drew.heap[k]? = w.heap[k]? := rfl
theorem below_drewN (w : World) (k : Nat) : Below w.heap.size w (w.drewN k) := ⟨rfl, rfl, rfl, Nat.le_refl _, fun _ _ => rfl⟩

/-- Bytes in memory. -/
def BytesAt (w : World) (a : Option Addr) (bs : List Int) : Prop := bs = [] ∨ ∃ g off, a = some ⟨g, off, none⟩ ∧ w.rangeAt g off (bys bs)
theorem BytesAt.chg {w w' : World} {S : Nat → Prop} {a : Option Addr} {bs : List Int} (h : BytesAt w a bs) (hc : Chg S w w') (hS : ∀ g off, a = some ⟨g, off, none⟩ → bs ≠ [] → ¬ S g) : BytesAt w' a bs := by
  rcases h with e | ⟨g, off, e, h⟩
  · exact .inl e
  · by_cases hb : bs = []
    · exact .inl hb
    · exact .inr ⟨g, off, e, fun j u hu => (World.cell?_of_block (hc.block g (World.block_lt_of_cell? _ _ (h j u hu)) (hS g off e hb))).trans (h j u hu)⟩
theorem BytesAt.kept {w w' : World} {a : Option Addr} {bs : List Int} (h : BytesAt w a bs) (hb : Below w.heap.size w w') : BytesAt w' a bs :=
  h.chg (S := fun _ => False) (.of_below hb) (fun _ _ _ _ h => h)
/-- No byte among them. -/
def No8 (C : List Value) : Prop := ∀ (x : Nat) (n : Int), C[x]? ≠ some (Value.int .u8 n)
theorem BytesAt.apart {w : World} {a : Option Addr} {bs : List Int} {b : Nat} {C : List Value} {t : TypeId} {g off : Nat} (h : BytesAt w a bs) (hb : w.heap[b]? = some (.cells C.toArray t (0, 0))) (hC : No8 C) (ha : a = some ⟨g, off, none⟩) (hne : bs ≠ []) : g ≠ b := by
  rintro rfl
  rcases h with e | ⟨g', off', e, h⟩
  · exact hne e
  · rw [ha] at e
    cases e
    cases bs with
    | nil => exact hne rfl
    | cons x r =>
      have := h 0 (b8 x) rfl
      simp only [World.cell?, hb] at this
      exact hC (off + 0) x (by simpa [b8] using this)
theorem BytesAt.part {w : World} {g off : Nat} {bs : List Int} (h : w.rangeAt g off (bys bs)) (i j : Nat) : w.rangeAt g (off + i) (bys (seg bs i j)) := fun k u hu => by
  rw [bys_seg, List.getElem?_take] at hu
  split at hu
  · rw [List.getElem?_drop] at hu
    rw [show off + i + k = off + (i + k) by omega]
    exact h (i + k) u hu
  · cases hu
theorem BytesAt.lt {w : World} {g off : Nat} {bs : List Int} (h : BytesAt w (some ⟨g, off, none⟩) bs) (hn : bs ≠ []) : g < w.heap.size := by
  rcases h with e | ⟨g', off', e, h⟩
  · exact absurd e hn
  · cases e
    cases bs with
    | nil => exact absurd rfl hn
    | cons x r => exact World.block_lt_of_cell? _ _ (h 0 (b8 x) rfl)

/-- A text that may be read: bytes, and not too many. -/
structure TextOk (a : Option Addr) (bs : List Int) (c : Nat) : Prop where
  small : bs.length ≤ 100000
  cap : bs.length ≤ c
  capped : c ≤ 9223372036854775807
  byte : ∀ x ∈ bs, 0 ≤ x ∧ x < 256
  mid : a = none ∧ c = 0 ∨ ∃ x, a = some x
/-- Block R is a reader of this text, at place i. -/
structure RdAt (w : World) (R : Nat) (a : Option Addr) (c : Nat) (bs : List Int) (i : Nat) : Prop where
  head : w.heap[R]? = some (.cells #[.slice a bs.length c, .int .i64 (i : Int)] 58 (0, 0))
  text : BytesAt w a bs
  le : i ≤ bs.length
  ok : TextOk a bs c
section
variable {w w' : World} {R : Nat} {a : Option Addr} {c : Nat} {bs : List Int} {i : Nat}
theorem head_no8 {n c : Nat} {i : Int} : No8 [.slice a n c, .int .i64 i] := by
  intro x n h
  have := List.mem_of_getElem? h
  simp at this
theorem RdAt.apart (h : RdAt w R a c bs i) {g off : Nat} (ha : a = some ⟨g, off, none⟩) (hn : bs ≠ []) : g ≠ R := h.text.apart (C := [_, _]) h.head head_no8 ha hn
theorem RdAt.lt (h : RdAt w R a c bs i) : R < w.heap.size := (Array.getElem?_eq_some_iff.1 h.head).1
theorem RdAt.kept (h : RdAt w R a c bs i) (hb : Below w.heap.size w w') : RdAt w' R a c bs i := ⟨(hb.block R h.lt).trans h.head, h.text.kept hb, h.le, h.ok⟩
theorem RdAt.drewN (h : RdAt w R a c bs i) (k : Nat) : RdAt (w.drewN k) R a c bs i := h.kept (below_drewN w k)
theorem RdAt.cells (h : RdAt w R a c bs i) : w.cell? ⟨R, 0, none⟩ = some (.slice a bs.length c) ∧ w.cell? ⟨R, 1, none⟩ = some (.int .i64 (i : Int)) ∧ ∀ i, w.frozen? ⟨R, i, none⟩ = false := by
  have := h.head
  simp [World.cell?, World.frozen?, this]
theorem RdAt.move (h : RdAt w R a c bs i) {j : Nat} (hj : j ≤ bs.length) : RdAt (w.setCell ⟨R, 1, none⟩ (.int .i64 (j : Int))) R a c bs j ∧ Chg (fun k => k = R) w (w.setCell ⟨R, 1, none⟩ (.int .i64 (j : Int))) := by
  have q : Chg (fun k => k = R) w (w.setCell ⟨R, 1, none⟩ (.int .i64 (j : Int))) := chg_setCell (S := fun k => k = R) rfl _ _ _
  refine ⟨⟨?_, h.text.chg q (fun g off e hn => h.apart e hn), hj, h.ok⟩, q⟩
  rw [heap_setCell_same w R 1 _ _ _ h.head]
  rfl
theorem RdAt.at (h : RdAt w R a c bs i) (hi : i < bs.length) : ∃ g off, a = some ⟨g, off, none⟩ ∧ w.cell? ⟨g, off + i, none⟩ = some (.int .u8 (bs.getD i 0)) ∧ 0 ≤ bs.getD i 0 ∧ bs.getD i 0 < 256 := by
  have hb : bs.getD i 0 ∈ bs := by simp [hi]
  have := h.ok.byte _ hb
  rcases h.text with e | ⟨g, off, e, ht⟩
  · subst e; simp at hi
  · exact ⟨g, off, e, ht i _ (by simp [bys, b8, hi]), this.1, this.2⟩
end
end Go.Proofs.Ytgojipnhnmigpaa

