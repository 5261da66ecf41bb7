/- By program out of: TmMap, TmMem, TmReg. -/
import Derived.Test.YtpjeecahaeaajaaGreatDoorMllobde
import Derived.Test.YtpjeecahaeaajaaGreatDoorMhcomgm
import Derived.WideKeyElems
import Derived.Carry
set_option linter.unusedVariables false
set_option linter.unusedSimpArgs false
namespace Go.Proofs.YtpjeecahaeaajaaGreatDoor
open Go.RowKit Go.MapKept Go.ChangeMaps Tm
def IM (w : World) (b : Nat) (M : List (Int × Value)) : Prop :=
  ∃ es clock, w.heap[b]? = some (.map es clock) ∧ es.toList.map (fun e => (e.key, e.val)) = M.map (fun e => (Value.int .i64 e.1, e.2))
section
variable {P : Program} {w w' : World} {t k e : TypeId} {b : Nat} {M : List (Int × Value)}
theorem IM.past (h : IM w b M) (hb : w'.heap[b]? = w.heap[b]?) : IM w' b M := by
  obtain ⟨es, clock, h1, h2⟩ := h
  exact ⟨es, clock, hb.trans h1, h2⟩
theorem IM.lt (h : IM w b M) : b < w.heap.size := by
  obtain ⟨es, clock, h1, h2⟩ := h
  exact (Array.getElem?_eq_some_iff.1 h1).1
theorem IM.ne {g : Nat} {cs : Array Value} {ty : TypeId} {m : Nat × Nat} (h : IM w b M) (hg : w.heap[g]? = some (.cells cs ty m)) : b ≠ g := by
  rintro rfl
  obtain ⟨es, clock, h1, h2⟩ := h
  rw [h1] at hg
  cases hg
end
end Go.Proofs.YtpjeecahaeaajaaGreatDoor

set_option linter.unusedVariables false
set_option linter.unusedSimpArgs false
namespace Go.Proofs.YtpjeecahaeaajaaGreatDoor
open Go.RowKit Tm
def i64s (l : List Int) : List Value := l.map (Value.int .i64)
theorem i64s_get {l : List Int} {i : Nat} {x : Int} (h : l[i]? = some x) : (i64s l)[i]? = some (.int .i64 x) := by simp [i64s, h]
structure KAt (w : World) (a : Option Addr) (kids : List Int) (c : Nat) : Prop where
  at_ : kids = [] ∨ ∃ g off, a = some ⟨g, off, none⟩ ∧ w.rangeAt g off (i64s kids)
  cap : kids.length ≤ c
  capped : c ≤ 9223372036854775807
  mid : a = none → c = 0
  few : kids.length ≤ 1000000
structure Cel (w : World) (a : Option Addr) (l c : Nat) : Prop where
  at_ : l = 0 ∨ ∃ g off C, a = some ⟨g, off, none⟩ ∧ C.length = l ∧ w.rangeAt g off C ∧ ∀ v ∈ C, v.oneCell' = true
  few : l ≤ 1000000
section
variable {w w' : World} {a : Option Addr} {kids : List Int} {c l : Nat}
theorem KAt.kept (h : KAt w a kids c) (hb : Below w.heap.size w w') : KAt w' a kids c := by
  refine ⟨?_, h.cap, h.capped, h.mid, h.few⟩
  rcases h.at_ with e | ⟨g, off, e, h⟩
  · exact .inl e
  · exact .inr ⟨g, off, e, fun j u hu => (hb.cell (p := ⟨g, off + j, none⟩) (World.block_lt_of_cell? _ _ (h j u hu))).trans (h j u hu)⟩
theorem Cel.kept (h : Cel w a l c) (hb : Below w.heap.size w w') : Cel w' a l c := by
  refine ⟨?_, h.few⟩
  rcases h.at_ with e | ⟨g, off, C, e, hl, h, h1⟩
  · exact .inl e
  · exact .inr ⟨g, off, C, e, hl, fun j u hu => (hb.cell (p := ⟨g, off + j, none⟩) (World.block_lt_of_cell? _ _ (h j u hu))).trans (h j u hu), h1⟩
theorem KAt.get (h : KAt w a kids c) {i : Nat} {x : Int} (hi : kids[i]? = some x) : ∃ g off, a = some ⟨g, off, none⟩ ∧ w.cell? ⟨g, off + i, none⟩ = some (.int .i64 x) := by
  rcases h.at_ with e | ⟨g, off, e, h⟩
  · subst e; simp at hi
  · exact ⟨g, off, e, h i _ (i64s_get hi)⟩
theorem KAt.drop (h : KAt w a kids c) {m : Nat} (hm : m ≤ kids.length) {g off : Nat} (ha : a = some ⟨g, off, none⟩) : KAt w (some ⟨g, off + m, none⟩) (kids.drop m) (c - m) := by
  have := h.cap
  have := h.capped
  have := h.few
  refine ⟨?_, by simp; omega, by omega, fun e => (by cases e), by simp; omega⟩
  rcases h.at_ with e | ⟨g', off', e, h⟩
  · exact .inl (by rw [e]; simp)
  · rw [ha] at e
    cases e
    refine .inr ⟨g, off + m, rfl, fun j u hu => ?_⟩
    have hu' : (i64s kids)[m + j]? = some u := by
      simp only [i64s, List.getElem?_map, List.getElem?_drop] at hu ⊢
      exact hu
    rw [Nat.add_assoc]
    exact h (m + j) u hu'
theorem KAt.nil (w : World) : KAt w none [] 0 := ⟨.inl rfl, Nat.le_refl _, by omega, fun _ => rfl, by simp⟩
theorem Cel.nil (w : World) : Cel w none 0 0 := ⟨.inl rfl, by omega⟩
end
def GivesV (v : Value) (w : World) (e : Ending) (w' : World) : Prop := e = .returned v ∧ Below w.heap.size w w'
theorem GivesV.mk' {v : Value} {w w' : World} {e : Ending} (h : e = .returned v) (hb : Below w.heap.size w w') : GivesV v w e w' := ⟨h, hb⟩
theorem GivesV.of (v : Value) (w : World) (o : Obj) : GivesV v w (.returned v) (w.alloc o) := ⟨rfl, (Below.refl _ _).alloc (Nat.le_refl _) _⟩
structure NodeAt (w : World) (n : Nd) (ka : Option Addr) (kc : Nat) (s : Bool) (a1 : Option Addr) (l1 c1 : Nat) (a2 : Option Addr) (l2 c2 : Nat) : Prop where
  kids : KAt w ka n.kids kc
  z : n.z = (!s && decide (l1 = 0) && decide (l2 = 0))
  m1 : Cel w a1 l1 c1
  m2 : Cel w a2 l2 c2
  right : n.op = 5 → ∀ W, Below w.heap.size w W → Calls Tryz.prog 32 #[.agg #[.bool s, .slice a1 l1 c1, .slice a2 l2 c2]] W (GivesV (.bool n.ok) W)
theorem NodeAt.kept {w w' : World} {n : Nd} {ka : Option Addr} {kc : Nat} {s : Bool} {a1 : Option Addr} {l1 c1 : Nat} {a2 : Option Addr} {l2 c2 : Nat} (h : NodeAt w n ka kc s a1 l1 c1 a2 l2 c2) (hb : Below w.heap.size w w') : NodeAt w' n ka kc s a1 l1 c1 a2 l2 c2 :=
  ⟨h.kids.kept hb, h.z, h.m1.kept hb, h.m2.kept hb, fun h5 W hW => h.right h5 W (hb.trans (hW.mono hb.size))⟩
def k2 (k : Kd) : List Value := [.int .i64 k.1, .bool k.2]
section
variable {w w' : World} {B R mo mg : Nat} {kv : Value} {g : Ru}
end
end Go.Proofs.YtpjeecahaeaajaaGreatDoor

set_option linter.unusedVariables false
set_option linter.unusedSimpArgs false
namespace Go.Proofs.YtpjeecahaeaajaaGreatDoor
open Go.RowKit Tm
theorem rangeAt_new (w : World) (L : List Value) (t : TypeId) : (w.alloc (.cells L.toArray t)).rangeAt w.heap.size 0 L := fun j u hu => by
  rw [Nat.zero_add, World.cell?_alloc_new]
  simpa using hu
theorem rangeAt_kept {w w' : World} {b off B : Nat} {L : List Value} (h : w.rangeAt b off L) (hb : Below B w w') (hB : b < B) : w'.rangeAt b off L := fun j u hu =>
  (World.cell?_of_block (a := ⟨b, off + j, none⟩) (hb.block b hB)).trans (h j u hu)
theorem rangeAt_lt {w : World} {b off : Nat} {L : List Value} (h : w.rangeAt b off L) (hl : 0 < L.length) : b < w.heap.size := by
  have := h 0 L[0] (List.getElem?_eq_getElem hl)
  exact World.block_lt_of_cell? _ _ this
theorem wpList_val {P : Program} {ops : Array Oper} {Q : Exit → Act → World → Prop} {a : Act} {w : World} {rest : List Oper} {o : Oper} (v : Value) (hr : (execOp a.eval o).run P w = .ok (.value v) w) (hw : Region.wanted o (yielded ops a.tmps) = true)
    (h : wpList P ops Q rest (a.put o.dst v) w) : wpList P ops Q (o :: rest) a w :=
  wpList_step fun K hK => by
    rw [if_pos hw]
    unfold Oper.wp
    rw [hr]
    exact hK _ _ h
section
variable {P : Program} {w : World} {base : Nat}
end
structure RowT (t e : TypeId) (size bytes : Nat) : Prop where
  ut : Tryz.prog.underlying t = some (.slice e)
  info : ∃ i z, Tryz.prog.info? e = some i ∧ i.zero = some z ∧ i.size = size ∧ i.bytes = bytes ∧ z.cells.size = size
  pos : 0 < size
  few : bytes ≤ 10000000
section
variable {ops : Array Oper} {o : Oper} {a : Act} {w : World} {K : Act → World → Prop} {Q : Exit → Act → World → Prop} {E : Prop} {t e : TypeId} {size bytes : Nat}
end
theorem size_ratio : (Tryz.prog.info? 27).map (·.size) = some 3 := by kernel_rfl
end Go.Proofs.YtpjeecahaeaajaaGreatDoor
