/-
  Layer 5: what the laws are handed, and two disks side by side.
-/
import Derived.Test.YtienhidbgohhcaaDkSpk
set_option linter.unusedVariables false
set_option linter.unusedSimpArgs false
namespace Go.Proofs.Ytienhidbgohhcaa
open Go.RowKit

/-- What is done, as the laws are handed it: kind, place, number, sector, and what is kept. -/
structure HC where
  what : Int
  at' : Int
  num : Int
  sec : List Int
  keep : Value
def HC.cells (c : HC) : List Value := .int .i64 c.what :: .int .i64 c.at' :: .int .i64 c.num :: (bys c.sec ++ [c.keep])
/-- A slice of such. -/
structure CallsIn' (w : World) (a : Option Addr) (cs : List HC) : Prop where
  sec : ∀ c ∈ cs, c.sec.length = 64 ∧ c.keep.oneCell' = true
  cells : cs = [] ∨ ∃ g off, a = some ⟨g, off, none⟩ ∧ ∀ k, k < cs.length → w.rangeAt g (off + k * 68) (cs.getD k ⟨0, 0, 0, [], undef⟩).cells
theorem HC.cells_len (c : HC) (h : c.sec.length = 64) : c.cells.length = 68 := by simp [HC.cells, bys_len, h]
theorem HC.cells_one (c : HC) (h : c.keep.oneCell' = true) : ∀ v ∈ c.cells, v.oneCell' = true := by
  intro v hv
  simp only [HC.cells, List.mem_cons, List.mem_append, List.not_mem_nil, or_false] at hv
  rcases hv with rfl | rfl | rfl | hv | rfl
  · rfl
  · rfl
  · rfl
  · exact bys_one _ v hv
  · exact h
theorem CallsIn'.kept {w w' : World} {a : Option Addr} {cs : List HC} (h : CallsIn' w a cs) (hb : Below w.heap.size w w') : CallsIn' w' a cs := by
  refine ⟨h.sec, ?_⟩
  rcases h.cells with e | ⟨g, off, e, k⟩
  · exact .inl e
  · exact .inr ⟨g, off, e, fun j hj i u hu => (hb.cell (p := ⟨g, off + j * 68 + i, none⟩) (World.block_lt_of_cell? _ _ (k j hj i u hu))).trans (k j hj i u hu)⟩

section
variable {w : World} {d s l : Nat} {v : Value} {n : Nat} {A : Dk.DV}
/-- The state behind a Write at whatever place. -/
def Dk.DV.puts (n : Nat) (i : Int) (S : List Int) (A : Dk.DV) : Dk.DV := if 0 ≤ i ∧ i < (n : Int) then A.writes i.toNat S else A
/-- What Write answers at whatever place, and does. -/
def WroteAny (d s l : Nat) (v : Value) (n : Nat) (i : Int) (A : Dk.DV) (w : World) (e : Ending) (w' : World) : Prop :=
  ∃ r : Int, e = .returned (.int .i64 r) ∧ (r = 0 ↔ 0 ≤ i ∧ i < (n : Int)) ∧ Did d s l v n A w (.returned (.tuple #[])) w'
theorem Write_any (h : DkAt w d s l v n A) (i : Int) {S : List Int} (hS : S.length = 64) (hw : A.wait.length ≤ 1000000) (ho : A.ops ≤ 1000000) :
    Calls Try.prog 21 #[.pointer (some ⟨d, 0, none⟩), .int .i64 i, .agg (bys S).toArray] w (WroteAny d s l v n i (A.puts n i S) w) := by
  unfold Dk.DV.puts
  by_cases hi : 0 ≤ i ∧ i < (n : Int)
  · rw [if_pos hi]
    obtain ⟨k, rfl⟩ : ∃ k : Nat, i = (k : Int) := ⟨i.toNat, by omega⟩
    exact (Write_yes h (by omega) hS hw ho).mono fun e w' ⟨h1, h2⟩ => ⟨0, h1, ⟨fun _ => hi, fun _ => rfl⟩, h2⟩
  · rw [if_neg hi]
    exact (Write_no h (by omega)).mono fun e w' ⟨h1, h2⟩ => ⟨2, h1, ⟨fun e => by omega, fun e => absurd e hi⟩, .still h h2⟩
end
theorem Fits.puts {n : Nat} {A : Dk.DV} (i : Int) (S : List Int) : (A.puts n i S).ops ≤ A.ops + 1 ∧ (A.puts n i S).wait.length ≤ A.wait.length + 1 ∧ (A.puts n i S).stop = A.stop := by
  unfold Dk.DV.puts Dk.DV.writes
  split
  · split
    · exact ⟨by omega, by omega, rfl⟩
    · exact ⟨Nat.le_refl _, by simp [Dk.DV.write], rfl⟩
  · exact ⟨by omega, by omega, rfl⟩
theorem Fits.flushes {A : Dk.DV} : A.flushes.ops ≤ A.ops + 1 ∧ A.flushes.wait.length ≤ A.wait.length + 1 ∧ A.flushes.stop = A.stop := by
  unfold Dk.DV.flushes
  split
  · exact ⟨by omega, by omega, rfl⟩
  · exact ⟨Nat.le_refl _, by simp [Dk.DV.flush, Dk.DV.settle], rfl⟩

/-- Two disks, apart, and apart from what was there. -/
structure Two (w0 w : World) (n : Nat) (d s l : Nat) (v : Value) (A : Dk.DV) (x t m : Nat) (u : Value) (B : Dk.DV) : Prop where
  one : DkAt w d s l v n A
  two : DkAt w x t m u n B
  apart : ∀ j, Foot d s l v j → ¬ Foot x t m u j
  old1 : ∀ j, Foot d s l v j → w0.heap.size ≤ j
  old2 : ∀ j, Foot x t m u j → w0.heap.size ≤ j
  below : Below w0.heap.size w0 w
section
variable {w0 w w' : World} {n : Nat} {d s l : Nat} {v : Value} {A A' : Dk.DV} {x t m : Nat} {u : Value} {B B' : Dk.DV}
theorem Two.swap (h : Two w0 w n d s l v A x t m u B) : Two w0 w n x t m u B d s l v A := ⟨h.two, h.one, fun j h1 h2 => h.apart j h2 h1, h.old2, h.old1, h.below⟩
theorem Two.kept (h : Two w0 w n d s l v A x t m u B) (hb : Below w.heap.size w w') : Two w0 w' n d s l v A x t m u B :=
  ⟨h.one.kept hb, h.two.kept hb, h.apart, h.old1, h.old2, h.below.trans (hb.mono h.below.size)⟩
theorem Two.did {e : Ending} (h : Two w0 w n d s l v A x t m u B) (k : Did d s l v n A' w e w') : ∃ v', Two w0 w' n d s l v' A' x t m u B ∧ ∀ j, j < w.heap.size → ¬ Foot d s l v j → ¬ Foot d s l v' j := by
  obtain ⟨_, v', k1, k2, k3⟩ := k
  have hn : ∀ j, Foot d s l v' j → Foot d s l v j ∨ w.heap.size ≤ j := fun j hj => by
    rcases hj with hj | hj | hj | hj
    · exact .inl (.inl hj)
    · exact .inl (.inr (.inl hj))
    · exact .inl (.inr (.inr (.inl hj)))
    · exact (k3 j hj).imp (fun e => .inr (.inr (.inr e))) id
  refine ⟨v', ⟨k1, h.two.apart k2 (fun j h1 h2 => h.apart j h2 h1), fun j hj hx => ?_, fun j hj => ?_, h.old2, h.below.trans (k2.below h.old1 h.below.size)⟩, fun j hj h1 h2 => ?_⟩
  · rcases hn j hj with e | e
    · exact h.apart j e hx
    · have := h.two.lt j hx
      omega
  · rcases hn j hj with e | e
    · exact h.old1 j e
    · exact Nat.le_trans h.below.size e
  · rcases hn j h2 with e | e
    · exact h1 e
    · omega
/-- Cells that are no disk's stay. -/
theorem Did.range {e : Ending} (k : Did d s l v n A' w e w') {b o : Nat} {cs : List Value} (hr : w.rangeAt b o cs) (hb : b < w.heap.size) (hn : ¬ Foot d s l v b) : w'.rangeAt b o cs := fun j y hy =>
  (World.cell?_of_block (k.2.choose_spec.2.1.block b hb hn)).trans (hr j y hy)
end
/-- The two go the same way; one stops, the other one doesn't. -/
structure Rel (A B : Dk.DV) (q k : Nat) : Prop where
  like : A.like B
  st1 : A.stop = (q : Int)
  st2 : B.stop = 9223372036854775807
  ops : A.ops ≤ k
  wait : A.wait.length ≤ k
section
variable {A B : Dk.DV} {q k n : Nat}
theorem Rel.dead (h : Rel A B q k) : A.dead = decide ((q : Int) ≤ (A.ops : Int)) := by unfold Dk.DV.dead; rw [h.st1]
theorem Rel.live (h : Rel A B q k) (hk : k ≤ 1000) : B.dead = false := by
  unfold Dk.DV.dead
  rw [h.st2, ← h.like.2.2.2]
  have := h.ops
  simp
  omega
theorem Rel.more (h : Rel A B q k) : Rel A B q (k + 1) := ⟨h.like, h.st1, h.st2, by have := h.ops; omega, by have := h.wait; omega⟩
theorem Rel.put (h : Rel A B q k) (hk : k ≤ 1000) (i : Int) (S : List Int) (hq : A.ops < q) : Rel (A.puts n i S) (B.puts n i S) q (k + 1) := by
  obtain ⟨a1, a2, a3⟩ := Fits.puts (n := n) (A := A) i S
  obtain ⟨b1, b2, b3⟩ := Fits.puts (n := n) (A := B) i S
  refine ⟨?_, a3.trans h.st1, b3.trans h.st2, by have := h.ops; omega, by have := h.wait; omega⟩
  have hd : A.dead = false := by rw [h.dead]; simp; omega
  have hd2 := h.live hk
  unfold Dk.DV.puts
  split
  · unfold Dk.DV.writes
    rw [hd, hd2, if_neg (by simp), if_neg (by simp)]
    exact Dk.like_write h.like _ _
  · exact h.like
theorem Rel.put_dead (h : Rel A B q k) (i : Int) (S : List Int) (hq : ¬ A.ops < q) : Rel (A.puts n i S) B q (k + 1) := by
  have hd : A.dead = true := by rw [h.dead]; simp; omega
  have e : A.puts n i S = A := by
    unfold Dk.DV.puts Dk.DV.writes
    split
    · simp [hd]
    · rfl
  rw [e]
  exact h.more
theorem Rel.flush (h : Rel A B q k) (hk : k ≤ 1000) (hq : A.ops < q) : Rel A.flushes B.flushes q (k + 1) := by
  obtain ⟨a1, a2, a3⟩ := Fits.flushes (A := A)
  obtain ⟨b1, b2, b3⟩ := Fits.flushes (A := B)
  refine ⟨?_, a3.trans h.st1, b3.trans h.st2, by have := h.ops; omega, by have := h.wait; omega⟩
  have hd : A.dead = false := by rw [h.dead]; simp; omega
  have hd2 := h.live hk
  unfold Dk.DV.flushes
  rw [hd, hd2, if_neg (by simp), if_neg (by simp)]
  exact Dk.like_flush h.like
theorem Rel.flush_dead (h : Rel A B q k) (hq : ¬ A.ops < q) : Rel A.flushes B q (k + 1) := by
  have hd : A.dead = true := by rw [h.dead]; simp; omega
  have e : A.flushes = A := by
    unfold Dk.DV.flushes
    rw [hd, if_pos rfl]
  rw [e]
  exact h.more
end
theorem and31 (x : Int) : ∃ q : Nat, q ≤ 31 ∧ bits .and .i64 x 31 = (q : Int) := by
  refine ⟨(BitVec.ofInt 64 x &&& BitVec.ofInt 64 31).toNat, ?_, ?_⟩
  · rw [BitVec.toNat_and]
    exact Nat.and_le_right
  · show IntKind.i64.wrap ((BitVec.ofInt 64 x &&& BitVec.ofInt 64 31).toNat : Int) = _
    have : (BitVec.ofInt 64 x &&& BitVec.ofInt 64 31).toNat ≤ 31 := by rw [BitVec.toNat_and]; exact Nat.and_le_right
    exact IntWalk.i64_in _ (by omega)
end Go.Proofs.Ytienhidbgohhcaa

