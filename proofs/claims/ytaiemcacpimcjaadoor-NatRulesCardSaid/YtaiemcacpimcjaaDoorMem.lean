/-
  Memory, in this seat's own words: what a slice's cells read ('Reads'), a block that is known from its beginning on ('Row'), and what keeps both. No function of the program.
-/
import Derived.Test.YtaiemcacpimcjaaDoorRep
import Derived.Test.YtaiemcacpimcjaaDoorRows
import Derived.WalkKit
import Derived.WalkSpells
import Derived.WalkLawsBesides
import Derived.Lib.Hide
import Derived.Deep.Draws
set_option linter.unusedVariables false
set_option linter.unusedSimpArgs false
namespace Go.Proofs.YtaiemcacpimcjaaDoor
open Go.RowKit

/-- A limb's cell. -/
def u32v (d : Nat) : Value := .int .u32 (d : Int)
/-- An int's cell. -/
def i64v (d : Nat) : Value := .int .i64 (d : Int)

/-- From its address on a slice's cells hold these values. -/
def Reads (w : World) (a : Option Addr) (vs : List Value) : Prop :=
  vs = [] ∨ ∃ g off, a = some ⟨g, off, none⟩ ∧ ∀ i u, vs[i]? = some u → w.cell? ⟨g, off + i, none⟩ = some u

/-- Block g is of elements E, has so many, is no constant, and begins with these values. -/
def Row (E : TypeId) (w : World) (g cap : Nat) (vs : List Value) : Prop :=
  ∃ cur : Array Value, w.heap[g]? = some (.cells cur E (0, 0)) ∧ cur.size = cap ∧ vs.length ≤ cap ∧ cur.toList.take vs.length = vs

theorem Reads.nil (w : World) (a : Option Addr) : Reads w a [] := .inl rfl

theorem Reads.open' {w : World} {a : Option Addr} {vs : List Value} (h : Reads w a vs) (hn : 0 < vs.length) :
    ∃ g off, a = some ⟨g, off, none⟩ ∧ g < w.heap.size ∧ ∀ i u, vs[i]? = some u → w.cell? ⟨g, off + i, none⟩ = some u := by
  rcases h with rfl | ⟨g, off, rfl, h⟩
  · simp at hn
  · refine ⟨g, off, rfl, ?_, h⟩
    have := h 0 vs[0] (by simp)
    exact World.block_lt_of_cell? w _ this

theorem Reads.kept {w w' : World} {a : Option Addr} {vs : List Value} (h : Reads w a vs) (hb : Below w.heap.size w w') : Reads w' a vs := by
  rcases h with rfl | ⟨g, off, rfl, h⟩
  · exact .inl rfl
  · refine .inr ⟨g, off, rfl, fun i u hu => ?_⟩
    have hc := h i u hu
    rw [hb.cell (World.block_lt_of_cell? w _ hc)]
    exact hc

theorem Reads.grown {w w' : World} {a : Option Addr} {vs : List Value} {row : Option Nat} (h : Reads w a vs) (hb : w.grownBy w' row) (hne : vs = [] ∨ ∀ g off, a = some ⟨g, off, none⟩ → some g ≠ row) : Reads w' a vs := by
  rcases h with rfl | ⟨g, off, rfl, h⟩
  · exact .inl rfl
  · rcases hne with rfl | hne
    · exact .inl rfl
    · refine .inr ⟨g, off, rfl, fun i u hu => ?_⟩
      have hc := h i u hu
      exact hb.cell hc (hne g off rfl)

theorem Reads.take {w : World} {a : Option Addr} {vs : List Value} (h : Reads w a vs) (n : Nat) : Reads w a (vs.take n) := by
  rcases h with rfl | ⟨g, off, rfl, h⟩
  · exact .inl (by simp)
  · refine .inr ⟨g, off, rfl, fun i u hu => ?_⟩
    rw [List.getElem?_take] at hu
    split at hu
    · exact h i u hu
    · cases hu

theorem Row.cell {E : TypeId} {w : World} {g cap : Nat} {vs : List Value} (h : Row E w g cap vs) (i : Nat) (u : Value) (hu : vs[i]? = some u) : w.cell? ⟨g, i, none⟩ = some u := by
  obtain ⟨cur, hh, hs, hl, ht⟩ := h
  simp only [World.cell?, hh]
  rw [← ht, List.getElem?_take] at hu
  split at hu
  · simpa using hu
  · cases hu
theorem Row.frozen {E : TypeId} {w : World} {g cap : Nat} {vs : List Value} (h : Row E w g cap vs) (i : Nat) : w.frozen? ⟨g, i, none⟩ = false := by
  obtain ⟨cur, hh, hs, hl, ht⟩ := h
  simp [World.frozen?, hh]
theorem Row.lt {E : TypeId} {w : World} {g cap : Nat} {vs : List Value} (h : Row E w g cap vs) : g < w.heap.size := by
  obtain ⟨cur, hh, _⟩ := h
  exact (Array.getElem?_eq_some_iff.1 hh).1
theorem Row.le {E : TypeId} {w : World} {g cap : Nat} {vs : List Value} (h : Row E w g cap vs) : vs.length ≤ cap := by
  obtain ⟨cur, hh, hs, hl, ht⟩ := h
  exact hl
theorem Row.of_block {E : TypeId} {w w' : World} {g cap : Nat} {vs : List Value} (h : Row E w g cap vs) (hb : w'.heap[g]? = w.heap[g]?) : Row E w' g cap vs := by
  obtain ⟨cur, hh, r⟩ := h
  exact ⟨cur, by rw [hb]; exact hh, r⟩
theorem Row.kept {E : TypeId} {w w' : World} {g cap : Nat} {vs : List Value} (h : Row E w g cap vs) (hb : Below w.heap.size w w') : Row E w' g cap vs := h.of_block (hb.block g h.lt)
theorem Row.below {E : TypeId} {w w' : World} {g cap B : Nat} {vs : List Value} (h : Row E w g cap vs) (hb : Below B w w') (hg : g < B) : Row E w' g cap vs := h.of_block (hb.block g hg)
theorem Row.grown {E : TypeId} {w w' : World} {g cap : Nat} {row : Option Nat} {vs : List Value} (h : Row E w g cap vs) (hb : w.grownBy w' row) (hg : some g ≠ row) : Row E w' g cap vs := h.of_block (hb.block g h.lt hg)
theorem Row.drew {E : TypeId} {w : World} {g cap : Nat} {vs : List Value} (h : Row E w g cap vs) : Row E w.drew g cap vs := h
theorem Row.drewN {E : TypeId} {w : World} {g cap : Nat} {vs : List Value} (h : Row E w g cap vs) (n : Nat) : Row E (w.drewN n) g cap vs := h
theorem Row.alloc {E : TypeId} {w : World} {g cap : Nat} {vs : List Value} (h : Row E w g cap vs) (o : Obj) : Row E (w.alloc o) g cap vs := h.of_block (Below.heap_alloc w o g h.lt)
theorem Row.other {E : TypeId} {w : World} {g cap : Nat} {vs : List Value} (h : Row E w g cap vs) (p : Addr) (u : Value) (hp : g ≠ p.block) : Row E (w.setCell p u) g cap vs := h.of_block (Below.heap_setCell w p u g hp)
theorem Row.set {E : TypeId} {w : World} {g cap : Nat} {vs : List Value} (h : Row E w g cap vs) (i : Nat) (u : Value) : Row E (w.setCell ⟨g, i, none⟩ u) g cap (vs.set i u) := by
  obtain ⟨cur, hh, hs, hl, ht⟩ := h
  refine ⟨cur.setIfInBounds i u, ?_, by simp [hs], by simpa using hl, ?_⟩
  · simp only [World.setCell, Array.getElem?_modify]
    simp [hh]
  · simp only [List.length_set, Array.toList_setIfInBounds, List.take_set]
    rw [ht]
theorem Row.reads {E : TypeId} {w : World} {g cap : Nat} {vs : List Value} (h : Row E w g cap vs) (off : Nat) : Reads w (some ⟨g, off, none⟩) (vs.drop off) :=
  .inr ⟨g, off, rfl, fun i u hu => h.cell (off + i) u (by rw [List.getElem?_drop] at hu; exact hu)⟩
theorem Row.reads0 {E : TypeId} {w : World} {g cap : Nat} {vs : List Value} (h : Row E w g cap vs) : Reads w (some ⟨g, 0, none⟩) vs := by
  simpa using h.reads 0
theorem Row.take {E : TypeId} {w : World} {g cap : Nat} {vs : List Value} (h : Row E w g cap vs) (n : Nat) : Row E w g cap (vs.take n) := by
  obtain ⟨cur, hh, hs, hl, ht⟩ := h
  refine ⟨cur, hh, hs, by rw [List.length_take]; omega, ?_⟩
  rw [List.length_take]
  conv => rhs; rw [← ht]
  rw [List.take_take]
  
/-- The kit's owned row is such a block. -/
theorem Row.of_own {E : TypeId} {w : World} {base g n cap : Nat} {vs : List Value} (h : w.ownsRow base E 1 (.slice (some ⟨g, 0, none⟩) n cap) n vs) : Row E w g cap vs := by
  obtain ⟨hl, h | ⟨g', cap', cur, hv, hb, hh, hn, hm, hs, ht⟩⟩ := h
  · simp at h
  · simp at hv
    obtain ⟨rfl, rfl⟩ := hv
    exact ⟨cur, hh, by omega, by omega, by rw [hl]; exact ht⟩
theorem Row.own {E : TypeId} {w : World} {base g cap : Nat} {vs : List Value} (h : Row E w g cap vs) (hb : base ≤ g) (hm : cap ≤ maxLen) : w.ownsRow base E 1 (.slice (some ⟨g, 0, none⟩) vs.length cap) vs.length vs := by
  obtain ⟨cur, hh, hs, hl, ht⟩ := h
  exact ⟨by omega, .inr ⟨g, cap, cur, rfl, hb, hh, hl, hm, by omega, by simpa using ht⟩⟩
/-- A new block. -/
theorem Row.new {E : TypeId} (w : World) (cur : Array Value) : Row E (w.alloc (.cells cur E)) w.heap.size cur.size cur.toList :=
  ⟨cur, heap_alloc_new w _, rfl, by simp, by rw [Array.length_toList, ← Array.length_toList, List.take_length]⟩

theorem map_getElem? {f : Nat → Value} {xs : List Nat} {i : Nat} (h : i < xs.length) : (xs.map f)[i]? = some (f (xs.getD i 0)) := by
  rw [List.getElem?_map, List.getElem?_eq_getElem h, List.getD_eq_getElem?_getD, List.getElem?_eq_getElem h]; rfl

theorem below_of_grown {w w' : World} (h : w.grownBy w' none) : Below w.heap.size w w' := ⟨h.os, h.tape, h.output, h.size, fun k hk => h.block k hk (by simp)⟩
theorem grown_of_below {w w' : World} (h : Below w.heap.size w w') (row : Option Nat) : w.grownBy w' row := ⟨h.os, h.tape, h.output, h.size, fun k hk _ => h.block k hk⟩

/-- A call gives a value and leaves the world as it was. -/
def Gives (v : Value) (w : World) (e : Ending) (w' : World) : Prop := e = .returned v ∧ w = w'
theorem Gives.mk' {v v' : Value} {w : World} (h : v' = v) : Gives v w (.returned v') w := ⟨by rw [h], rfl⟩
/-- A call gives a value and leaves the world as it was, but for draws. -/
def Draws (v : Value) (w : World) (e : Ending) (w' : World) : Prop := e = .returned v ∧ ∃ n, w' = w.drewN n

/-! ### New rows -/
/-- So many noughts of a kind. -/
def zrow (k : IntKind) (n : Nat) : Array Value := (List.replicate n (Value.int k 0)).toArray
theorem size_zrow (k : IntKind) (n : Nat) : (zrow k n).size = n := by simp [zrow]
theorem madeCells_one (z : Value) (n : Nat) : madeCells #[z] n = (List.replicate n z).toArray := by
  apply Array.ext
  · simp [madeCells]
  · intro i h1 h2
    simp [madeCells, Nat.mod_one]
theorem make_run {P : Program} {t e : TypeId} {k : IntKind} {bts : Nat} (ht : P.underlying t = some (.slice e)) (hi : (P.info? e).map (fun i => (i.zero, i.size, i.bytes)) = some (some (.int k 0), 1, bts))
    (l c : Int) (n m : Nat) (hl : l = n) (hc : c = m) (hnm : n ≤ m) (hb : bts * m ≤ 281474976710656) (hm : m ≤ maxLen) (w : World) :
    (Instr.makeSlice t (.int .i64 l) (.int .i64 c)).run P w = .ok (.slice (some ⟨w.heap.size, 0, none⟩) n m) (w.alloc (.cells (zrow k m) e)) := by
  obtain ⟨i, h1, h2, h3, h4⟩ := info_parts hi
  subst hl hc
  have hb' : (i.bytes : Int) * (m : Int) ≤ 281474976710656 := by
    rw [h4]
    have h : ((bts * m : Nat) : Int) ≤ 281474976710656 := by omega
    rwa [Int.natCast_mul] at h
  rw [run_make w t e i (.int k 0) ht h1 h2 .i64 .i64 n m (by omega) (by omega) hb' (by unfold maxLen at hm; omega)]
  simp only [Int.toNat_natCast, h3, Nat.mul_one]
  rw [show (Value.int k 0).cells = #[Value.int k 0] from rfl, madeCells_one]
  rfl
theorem Row.zrow {E : TypeId} (k : IntKind) (w : World) (n : Nat) : Row E (w.alloc (.cells (zrow k n) E)) w.heap.size n (List.replicate n (Value.int k 0)) := by
  have := Row.new (E := E) w (Go.Proofs.YtaiemcacpimcjaaDoor.zrow k n)
  rw [size_zrow] at this
  simpa [Go.Proofs.YtaiemcacpimcjaaDoor.zrow] using this

/-! ### append onto a row of one's own -/
theorem wpList_append_row {P : Program} (w : World) {ops : Array Oper} {rest : List Oper} {o : Oper} {a : Act} {Q : Exit → Act → World → Prop} (hgd : o.guard = none) (s x : Operand) (t : TypeId)
    (ho : o.op = .call { callee := .builtin .append, args := #[s, x], argTypes := #[t, t] }) (e : TypeId) (z : Value) (bts : Nat) (ht : P.underlying t = some (.slice e))
    (hi : (P.info? e).map (fun i => (i.zero, i.size, i.bytes)) = some (some z, 1, bts)) (hz1 : z.cells.size = 1)
    (g n cap : Nat) (vs : List Value) (hs : a.eval s = .slice (some ⟨g, 0, none⟩) n cap) (hrow : Row e w g cap vs) (hn : vs.length = n) (hcap : cap ≤ maxLen)
    (ax : Option Addr) (m c : Nat) (news : List Value) (hx : a.eval x = .slice ax m c) (hm : news.length = m) (hr : Reads w ax news) (h1 : ∀ u ∈ news, u.oneCell' = true)
    (hmax : n + m ≤ maxLen) (hb : (n + m) * bts ≤ 140737488355328)
    (h : ∀ g' cap' w', Row e w' g' cap' (vs ++ news) → cap' ≤ maxLen → w.grownBy w' (some g) → g ≤ g' → wpList P ops Q rest (a.put o.dst (.slice (some ⟨g', 0, none⟩) (n + m) cap')) w') : wpList P ops Q (o :: rest) a w := by
  obtain ⟨i, h2, h3, h4, h5⟩ := info_parts hi
  have hown := hrow.own (base := g) (Nat.le_refl _) hcap
  rw [hn] at hown
  have fin : ∀ v' w', w'.ownsRow g e 1 v' (n + m) (vs ++ news) → w.grownBy w' (some g) → v' ≠ .slice none 0 0 → wpList P ops Q rest (a.put o.dst v') w' := by
    intro v' w' ho' hg' hne
    obtain ⟨hl, ⟨e1, _⟩ | ⟨g', cap', cur, rfl, hb', hh, hnc, hcm, hcs, htake⟩⟩ := ho'
    · exact absurd e1 hne
    · exact h g' cap' w' ⟨cur, hh, by omega, by omega, by rw [hl]; exact htake⟩ hcm hg' hb'
  cases ax with
  | some ad =>
    refine wpList_append_own w hgd s x t ho g e i z 1 bts ht h2 h3 h4 h5 hz1 (by decide) _ n vs hs hown ad m c news hx (by omega) ?_ h1 hmax hb (Nat.le_of_lt hrow.lt) ?_
    · intro j u hu
      rcases hr with rfl | ⟨g', off', hg, hr⟩
      · simp at hu
      · cases hg
        have := hr j u hu
        unfold Addr.add
        split
        · subst j; exact this
        · exact this
    · intro v' w' a1 a2 a3
      exact fin v' w' a1 a2 (fun e1 => by simp at a3; exact a3 e1)
  | none =>
    have : news = [] := by
      rcases hr with rfl | ⟨g', off', hg, hr⟩
      · rfl
      · cases hg
    subst this
    obtain rfl : m = 0 := by simpa using hm.symm
    have hrun : (Builtin.append_ #[t, t] o.type #[.slice (some ⟨g, 0, none⟩) n cap, .slice none 0 c]).run P w = .ok (.slice (some ⟨g, 0, none⟩) n cap) w := by
      have hle : n ≤ cap := by have := hrow.le; omega
      simp [Builtin.append_, run_underlying ht, sizeOf, typeInfo, h2, Builtin.lenOf, Builtin.firstCells, hle, storeCells]
    refine wpList_plain hgd fun K hK => ?_
    unfold Oper.wp
    simp [execOp, ho, resolve, invoke, builtin, hs, hx, hrun, Result.andThen]
    exact hK _ _ (h g cap w (by simpa using hrow) hcap ⟨rfl, rfl, rfl, Nat.le_refl _, fun _ _ _ => rfl⟩ (Nat.le_refl _))

/-! ### Numbers -/
/-- A number's limbs. -/
def L (n : Nat) : List Nat := Rep.rep 4294967296 n
/-- The number of limbs. -/
def V (xs : List Nat) : Nat := Rep.val 4294967296 xs
/-- Limbs alone. -/
def Lim (xs : List Nat) : Prop := Rep.Dig 4294967296 xs
theorem V_L (n : Nat) : V (L n) = n := Rep.val_rep (by omega) n
theorem L_lim (n : Nat) : Lim (L n) := Rep.rep_dig (by omega) n
theorem L_zero : L 0 = [] := rfl
theorem L_len (n k : Nat) : (L n).length ≤ k ↔ n < 4294967296 ^ k := Rep.rep_length_le (by omega) n k
theorem L_nil {n : Nat} : L n = [] ↔ n = 0 := Rep.rep_eq_nil (by omega)
theorem L_len_zero {n : Nat} : (L n).length = 0 ↔ n = 0 := by rw [List.length_eq_zero_iff, L_nil]
/-- At a (with so much room) lies the number n. -/
def NumAt (w : World) (a : Option Addr) (c n : Nat) : Prop := Reads w a ((L n).map u32v) ∧ (L n).length ≤ c ∧ c ≤ maxLen
theorem NumAt.zero (w : World) : NumAt w none 0 0 := ⟨.inl rfl, by simp [L_zero], by simp [maxLen]⟩
theorem NumAt.kept {w w' : World} {a : Option Addr} {c n : Nat} (h : NumAt w a c n) (hb : Below w.heap.size w w') : NumAt w' a c n := ⟨h.1.kept hb, h.2⟩
/-- A call gives the number n where one lies, and leaves the world as it was. -/
def GivesNum (n : Nat) (w : World) (e : Ending) (w' : World) : Prop := ∃ a c, e = .returned (.slice a (L n).length c) ∧ NumAt w a c n ∧ w = w'
/-- A call gives the number n, and leaves what there was as it was. -/
def GivesNew (n : Nat) (w : World) (e : Ending) (w' : World) : Prop := ∃ a c, e = .returned (.slice a (L n).length c) ∧ NumAt w' a c n ∧ Below w.heap.size w w'

/-- A slice of limbs that lies in a block from B on, at its head; or nil. -/
def Own (B : Nat) (w : World) (a : Option Addr) (c : Nat) (xs : List Nat) : Prop :=
  c ≤ maxLen ∧ ((a = none ∧ c = 0 ∧ xs = []) ∨ ∃ g, a = some ⟨g, 0, none⟩ ∧ B ≤ g ∧ Row 48 w g c (xs.map u32v))
theorem Own.reads {B : Nat} {w : World} {a : Option Addr} {c : Nat} {xs : List Nat} (h : Own B w a c xs) : Reads w a (xs.map u32v) := by
  obtain ⟨_, ⟨rfl, rfl, rfl⟩ | ⟨g, rfl, hg, hr⟩⟩ := h
  · exact .inl rfl
  · exact hr.reads0
theorem Own.le {B : Nat} {w : World} {a : Option Addr} {c : Nat} {xs : List Nat} (h : Own B w a c xs) : xs.length ≤ c := by
  obtain ⟨_, ⟨rfl, rfl, rfl⟩ | ⟨g, rfl, hg, hr⟩⟩ := h
  · simp
  · simpa using hr.le
theorem Own.row {B : Nat} {w : World} {a : Option Addr} {c : Nat} {xs : List Nat} (h : Own B w a c xs) (hn : 0 < xs.length) : ∃ g, a = some ⟨g, 0, none⟩ ∧ B ≤ g ∧ Row 48 w g c (xs.map u32v) := by
  obtain ⟨_, ⟨rfl, rfl, rfl⟩ | h⟩ := h
  · simp at hn
  · exact h
theorem Own.mono {B B' : Nat} {w : World} {a : Option Addr} {c : Nat} {xs : List Nat} (h : Own B w a c xs) (hB : B' ≤ B) : Own B' w a c xs := by
  obtain ⟨h1, h2 | ⟨g, rfl, hg, hr⟩⟩ := h
  · exact ⟨h1, .inl h2⟩
  · exact ⟨h1, .inr ⟨g, rfl, Nat.le_trans hB hg, hr⟩⟩
theorem Own.kept {B : Nat} {w w' : World} {a : Option Addr} {c : Nat} {xs : List Nat} (h : Own B w a c xs) (hb : Below w.heap.size w w') : Own B w' a c xs := by
  obtain ⟨h1, h2 | ⟨g, rfl, hg, hr⟩⟩ := h
  · exact ⟨h1, .inl h2⟩
  · exact ⟨h1, .inr ⟨g, rfl, hg, hr.kept hb⟩⟩
theorem Own.take {B : Nat} {w : World} {a : Option Addr} {c : Nat} {xs : List Nat} (h : Own B w a c xs) (n : Nat) : Own B w a c (xs.take n) := by
  obtain ⟨h1, ⟨rfl, rfl, rfl⟩ | ⟨g, rfl, hg, hr⟩⟩ := h
  · exact ⟨h1, .inl ⟨rfl, rfl, by simp⟩⟩
  · exact ⟨h1, .inr ⟨g, rfl, hg, by rw [List.map_take]; exact hr.take n⟩⟩
theorem Own.nil (B : Nat) (w : World) : Own B w none 0 [] := ⟨by simp [maxLen], .inl ⟨rfl, rfl, rfl⟩⟩
/-- A call gives limbs of its own. -/
def GivesOwn (xs : List Nat) (w : World) (e : Ending) (w' : World) : Prop := ∃ a c, e = .returned (.slice a xs.length c) ∧ Own w.heap.size w' a c xs ∧ Below w.heap.size w w'

/-- The block of an address. -/
def blk (a : Option Addr) : Option Nat := a.map (·.block)
/-- A call gives the number n in the memory of a slice of one's own at a, and leaves all else as it was. -/
def GivesTake (B : Nat) (a : Option Addr) (n : Nat) (w : World) (e : Ending) (w' : World) : Prop :=
  ∃ a' c', e = .returned (.slice a' (L n).length c') ∧ Own B w' a' c' (L n) ∧ (a' = none ∨ a' = a) ∧ w.grownBy w' (blk a)
theorem Own.num {B : Nat} {w : World} {a : Option Addr} {c n : Nat} (h : Own B w a c (L n)) : NumAt w a c n := ⟨h.reads, h.le, h.1⟩

/-! ### Benches -/
/-- Is a bench over, behind an answer n? -/
def outO (m : Nat) (o : Bool) (n : Nat) : Bool := o || decide (m < (L n).length)
/-- What it answers. -/
def outN (m : Nat) (o : Bool) (n : Nat) : Nat := if outO m o n = true then 0 else n
/-- Block b is a bench for so many limbs. -/
def Bench (w : World) (b m : Nat) (over : Bool) : Prop :=
  w.heap[b]? = some (.cells #[.int .i64 (m : Int), .bool over] 58 (0, 0))
theorem Bench.c0 {w : World} {b m : Nat} {over : Bool} (h : Bench w b m over) : w.cell? ⟨b, 0, none⟩ = some (.int .i64 (m : Int)) := by
  unfold Bench at h; simp [World.cell?, h]
theorem Bench.c1 {w : World} {b m : Nat} {over : Bool} (h : Bench w b m over) : w.cell? ⟨b, 1, none⟩ = some (.bool over) := by
  unfold Bench at h; simp [World.cell?, h]
theorem Bench.free {w : World} {b m : Nat} {over : Bool} (h : Bench w b m over) (i : Nat) : w.frozen? ⟨b, i, none⟩ = false := by
  unfold Bench at h; simp [World.frozen?, h]
theorem Bench.lt {w : World} {b m : Nat} {over : Bool} (h : Bench w b m over) : b < w.heap.size := (Array.getElem?_eq_some_iff.1 h).1
theorem Bench.of_block {w w' : World} {b m : Nat} {over : Bool} (h : Bench w b m over) (hb : w'.heap[b]? = w.heap[b]?) : Bench w' b m over := hb.trans h
theorem Bench.kept {w w' : World} {b m : Nat} {over : Bool} (h : Bench w b m over) (hb : Below w.heap.size w w') : Bench w' b m over := h.of_block (hb.block b h.lt)
theorem Bench.set {w : World} {b m : Nat} {over : Bool} (h : Bench w b m over) (o : Bool) : Bench (w.setCell ⟨b, 1, none⟩ (.bool o)) b m o := by
  unfold Bench at h ⊢
  simp [World.setCell, Array.getElem?_modify, h]
/-- A limb isn't where a bench is. -/
theorem Bench.apart {w : World} {b m : Nat} {over : Bool} (h : Bench w b m over) {a : Option Addr} {xs : List Nat} (hr : Reads w a (xs.map u32v)) :
    xs.map u32v = [] ∨ ∀ g off, a = some ⟨g, off, none⟩ → some g ≠ some b := by
  rcases hr with hr | ⟨g, off, rfl, hr⟩
  · exact .inl hr
  · by_cases e : xs = []
    · exact .inl (by simp [e])
    · refine .inr fun g' off' hg hb => ?_
      simp at hg hb
      obtain ⟨rfl, rfl⟩ := hg
      subst hb
      have := hr 0 _ (map_getElem? (by cases xs; exact absurd rfl e; simp))
      unfold Bench at h
      simp only [World.cell?, h] at this
      rcases off with _ | _ | off <;> simp [u32v] at this

end Go.Proofs.YtaiemcacpimcjaaDoor
