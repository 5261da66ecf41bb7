/- By program out of: Mem, Compare, Trim, TrimNum, Clone, Shl, Shr, Bench, Add, Mul, Take. -/
import Derived.Test.YtpjeecahaeaajaaGreatDoorMhcomgm
import Derived.Test.YtpjeecahaeaajaaGreatDoorRows
import Derived.WalkKit
import Derived.WalkSpells
import Derived.WalkLawsBesides
import Derived.Lib.Hide
import Derived.Deep.Draws
set_option linter.unusedVariables false
set_option linter.unusedSimpArgs false
namespace Go.Proofs.YtpjeecahaeaajaaGreatDoor
open Go.RowKit
def u32v (d : Nat) : Value := .int .u32 (d : Int)
def i64v (d : Nat) : Value := .int .i64 (d : Int)
def Reads (w : World) (a : Option Addr) (vs : List Value) : Prop :=
  vs = [] ∨ ∃ g off, a = some ⟨g, off, none⟩ ∧ ∀ i u, vs[i]? = some u → w.cell? ⟨g, off + i, none⟩ = some u
def Row (E : TypeId) (w : World) (g cap : Nat) (vs : List Value) : Prop :=
  ∃ cur : Array Value, w.heap[g]? = some (.cells cur E (0, 0)) ∧ cur.size = cap ∧ vs.length ≤ cap ∧ cur.toList.take vs.length = vs
theorem Reads.nil (w : World) (a : Option Addr) : Reads w a [] := .inl rfl
theorem Reads.open' {w : World} {a : Option Addr} {vs : List Value} (h : Reads w a vs) (hn : 0 < vs.length) :
    ∃ g off, a = some ⟨g, off, none⟩ ∧ g < w.heap.size ∧ ∀ i u, vs[i]? = some u → w.cell? ⟨g, off + i, none⟩ = some u := by
  rcases h with rfl | ⟨g, off, rfl, h⟩
  · simp at hn
  · refine ⟨g, off, rfl, ?_, h⟩
    have := h 0 vs[0] (by simp)
    exact World.block_lt_of_cell? w _ this
theorem Reads.kept {w w' : World} {a : Option Addr} {vs : List Value} (h : Reads w a vs) (hb : Below w.heap.size w w') : Reads w' a vs := by
  rcases h with rfl | ⟨g, off, rfl, h⟩
  · exact .inl rfl
  · refine .inr ⟨g, off, rfl, fun i u hu => ?_⟩
    have hc := h i u hu
    rw [hb.cell (World.block_lt_of_cell? w _ hc)]
    exact hc
theorem Reads.grown {w w' : World} {a : Option Addr} {vs : List Value} {row : Option Nat} (h : Reads w a vs) (hb : w.grownBy w' row) (hne : vs = [] ∨ ∀ g off, a = some ⟨g, off, none⟩ → some g ≠ row) : Reads w' a vs := by
  rcases h with rfl | ⟨g, off, rfl, h⟩
  · exact .inl rfl
  · rcases hne with rfl | hne
    · exact .inl rfl
    · refine .inr ⟨g, off, rfl, fun i u hu => ?_⟩
      have hc := h i u hu
      exact hb.cell hc (hne g off rfl)
theorem Reads.take {w : World} {a : Option Addr} {vs : List Value} (h : Reads w a vs) (n : Nat) : Reads w a (vs.take n) := by
  rcases h with rfl | ⟨g, off, rfl, h⟩
  · exact .inl (by simp)
  · refine .inr ⟨g, off, rfl, fun i u hu => ?_⟩
    rw [List.getElem?_take] at hu
    split at hu
    · exact h i u hu
    · cases hu
theorem Row.cell {E : TypeId} {w : World} {g cap : Nat} {vs : List Value} (h : Row E w g cap vs) (i : Nat) (u : Value) (hu : vs[i]? = some u) : w.cell? ⟨g, i, none⟩ = some u := by
  obtain ⟨cur, hh, hs, hl, ht⟩ := h
  simp only [World.cell?, hh]
  rw [← ht, List.getElem?_take] at hu
  split at hu
  · simpa using hu
  · cases hu
theorem Row.frozen {E : TypeId} {w : World} {g cap : Nat} {vs : List Value} (h : Row E w g cap vs) (i : Nat) : w.frozen? ⟨g, i, none⟩ = false := by
  obtain ⟨cur, hh, hs, hl, ht⟩ := h
  simp [World.frozen?, hh]
theorem Row.lt {E : TypeId} {w : World} {g cap : Nat} {vs : List Value} (h : Row E w g cap vs) : g < w.heap.size := by
  obtain ⟨cur, hh, _⟩ := h
  exact (Array.getElem?_eq_some_iff.1 hh).1
theorem Row.le {E : TypeId} {w : World} {g cap : Nat} {vs : List Value} (h : Row E w g cap vs) : vs.length ≤ cap := by
  obtain ⟨cur, hh, hs, hl, ht⟩ := h
  exact hl
theorem Row.of_block {E : TypeId} {w w' : World} {g cap : Nat} {vs : List Value} (h : Row E w g cap vs) (hb : w'.heap[g]? = w.heap[g]?) : Row E w' g cap vs := by
  obtain ⟨cur, hh, r⟩ := h
  exact ⟨cur, by rw [hb]; exact hh, r⟩
theorem Row.kept {E : TypeId} {w w' : World} {g cap : Nat} {vs : List Value} (h : Row E w g cap vs) (hb : Below w.heap.size w w') : Row E w' g cap vs := h.of_block (hb.block g h.lt)
theorem Row.below {E : TypeId} {w w' : World} {g cap B : Nat} {vs : List Value} (h : Row E w g cap vs) (hb : Below B w w') (hg : g < B) : Row E w' g cap vs := h.of_block (hb.block g hg)
theorem Row.grown {E : TypeId} {w w' : World} {g cap : Nat} {row : Option Nat} {vs : List Value} (h : Row E w g cap vs) (hb : w.grownBy w' row) (hg : some g ≠ row) : Row E w' g cap vs := h.of_block (hb.block g h.lt hg)
theorem Row.drew {E : TypeId} {w : World} {g cap : Nat} {vs : List Value} (h : Row E w g cap vs) : Row E w.drew g cap vs := h
theorem Row.drewN {E : TypeId} {w : World} {g cap : Nat} {vs : List Value} (h : Row E w g cap vs) (n : Nat) : Row E (w.drewN n) g cap vs := h
theorem Row.alloc {E : TypeId} {w : World} {g cap : Nat} {vs : List Value} (h : Row E w g cap vs) (o : Obj) : Row E (w.alloc o) g cap vs := h.of_block (Below.heap_alloc w o g h.lt)
theorem Row.other {E : TypeId} {w : World} {g cap : Nat} {vs : List Value} (h : Row E w g cap vs) (p : Addr) (u : Value) (hp : g ≠ p.block) : Row E (w.setCell p u) g cap vs := h.of_block (Below.heap_setCell w p u g hp)
theorem Row.set {E : TypeId} {w : World} {g cap : Nat} {vs : List Value} (h : Row E w g cap vs) (i : Nat) (u : Value) : Row E (w.setCell ⟨g, i, none⟩ u) g cap (vs.set i u) := by
  obtain ⟨cur, hh, hs, hl, ht⟩ := h
  refine ⟨cur.setIfInBounds i u, ?_, by simp [hs], by simpa using hl, ?_⟩
  · simp only [World.setCell, Array.getElem?_modify]
    simp [hh]
  · simp only [List.length_set, Array.toList_setIfInBounds, List.take_set]
    rw [ht]
theorem Row.reads {E : TypeId} {w : World} {g cap : Nat} {vs : List Value} (h : Row E w g cap vs) (off : Nat) : Reads w (some ⟨g, off, none⟩) (vs.drop off) :=
  .inr ⟨g, off, rfl, fun i u hu => h.cell (off + i) u (by rw [List.getElem?_drop] at hu; exact hu)⟩
theorem Row.reads0 {E : TypeId} {w : World} {g cap : Nat} {vs : List Value} (h : Row E w g cap vs) : Reads w (some ⟨g, 0, none⟩) vs := by
  simpa using h.reads 0
theorem Row.take {E : TypeId} {w : World} {g cap : Nat} {vs : List Value} (h : Row E w g cap vs) (n : Nat) : Row E w g cap (vs.take n) := by
  obtain ⟨cur, hh, hs, hl, ht⟩ := h
  refine ⟨cur, hh, hs, by rw [List.length_take]; omega, ?_⟩
  rw [List.length_take]
  conv => rhs; rw [← ht]
  rw [List.take_take]
  
theorem Row.of_own {E : TypeId} {w : World} {base g n cap : Nat} {vs : List Value} (h : w.ownsRow base E 1 (.slice (some ⟨g, 0, none⟩) n cap) n vs) : Row E w g cap vs := by
  obtain ⟨hl, h | ⟨g', cap', cur, hv, hb, hh, hn, hm, hs, ht⟩⟩ := h
  · simp at h
  · simp at hv
    obtain ⟨rfl, rfl⟩ := hv
    exact ⟨cur, hh, by omega, by omega, by rw [hl]; exact ht⟩
theorem Row.own {E : TypeId} {w : World} {base g cap : Nat} {vs : List Value} (h : Row E w g cap vs) (hb : base ≤ g) (hm : cap ≤ maxLen) : w.ownsRow base E 1 (.slice (some ⟨g, 0, none⟩) vs.length cap) vs.length vs := by
  obtain ⟨cur, hh, hs, hl, ht⟩ := h
  exact ⟨by omega, .inr ⟨g, cap, cur, rfl, hb, hh, hl, hm, by omega, by simpa using ht⟩⟩
theorem Row.new {E : TypeId} (w : World) (cur : Array Value) : Row E (w.alloc (.cells cur E)) w.heap.size cur.size cur.toList :=
  ⟨cur, heap_alloc_new w _, rfl, by simp, by rw [Array.length_toList, ← Array.length_toList, List.take_length]⟩
theorem map_getElem? {f : Nat → Value} {xs : List Nat} {i : Nat} (h : i < xs.length) : (xs.map f)[i]? = some (f (xs.getD i 0)) := by
  rw [List.getElem?_map, List.getElem?_eq_getElem h, List.getD_eq_getElem?_getD, List.getElem?_eq_getElem h]; rfl
theorem grown_of_below {w w' : World} (h : Below w.heap.size w w') (row : Option Nat) : w.grownBy w' row := ⟨h.os, h.tape, h.output, h.size, fun k hk _ => h.block k hk⟩
def Gives (v : Value) (w : World) (e : Ending) (w' : World) : Prop := e = .returned v ∧ w = w'
theorem Gives.mk' {v v' : Value} {w : World} (h : v' = v) : Gives v w (.returned v') w := ⟨by rw [h], rfl⟩
def Draws (v : Value) (w : World) (e : Ending) (w' : World) : Prop := e = .returned v ∧ ∃ n, w' = w.drewN n
def zrow (k : IntKind) (n : Nat) : Array Value := (List.replicate n (Value.int k 0)).toArray
theorem size_zrow (k : IntKind) (n : Nat) : (zrow k n).size = n := by simp [zrow]
theorem madeCells_one (z : Value) (n : Nat) : madeCells #[z] n = (List.replicate n z).toArray := by
  apply Array.ext
  · simp [madeCells]
  · intro i h1 h2
    simp [madeCells, Nat.mod_one]
theorem make_run {P : Program} {t e : TypeId} {k : IntKind} {bts : Nat} (ht : P.underlying t = some (.slice e)) (hi : (P.info? e).map (fun i => (i.zero, i.size, i.bytes)) = some (some (.int k 0), 1, bts))
    (l c : Int) (n m : Nat) (hl : l = n) (hc : c = m) (hnm : n ≤ m) (hb : bts * m ≤ 281474976710656) (hm : m ≤ maxLen) (w : World) :
    (Instr.makeSlice t (.int .i64 l) (.int .i64 c)).run P w = .ok (.slice (some ⟨w.heap.size, 0, none⟩) n m) (w.alloc (.cells (zrow k m) e)) := by
  obtain ⟨i, h1, h2, h3, h4⟩ := info_parts hi
  subst hl hc
  have hb' : (i.bytes : Int) * (m : Int) ≤ 281474976710656 := by
    rw [h4]
    have h : ((bts * m : Nat) : Int) ≤ 281474976710656 := by omega
    rwa [Int.natCast_mul] at h
  rw [run_make w t e i (.int k 0) ht h1 h2 .i64 .i64 n m (by omega) (by omega) hb' (by unfold maxLen at hm; omega)]
  simp only [Int.toNat_natCast, h3, Nat.mul_one]
  rw [show (Value.int k 0).cells = #[Value.int k 0] from rfl, madeCells_one]
  rfl
theorem Row.zrow {E : TypeId} (k : IntKind) (w : World) (n : Nat) : Row E (w.alloc (.cells (zrow k n) E)) w.heap.size n (List.replicate n (Value.int k 0)) := by
  have := Row.new (E := E) w (Go.Proofs.YtpjeecahaeaajaaGreatDoor.zrow k n)
  rw [size_zrow] at this
  simpa [Go.Proofs.YtpjeecahaeaajaaGreatDoor.zrow] using this
theorem wpList_append_row {P : Program} (w : World) {ops : Array Oper} {rest : List Oper} {o : Oper} {a : Act} {Q : Exit → Act → World → Prop} (hgd : o.guard = none) (s x : Operand) (t : TypeId)
    (ho : o.op = .call { callee := .builtin .append, args := #[s, x], argTypes := #[t, t] }) (e : TypeId) (z : Value) (bts : Nat) (ht : P.underlying t = some (.slice e))
    (hi : (P.info? e).map (fun i => (i.zero, i.size, i.bytes)) = some (some z, 1, bts)) (hz1 : z.cells.size = 1)
    (g n cap : Nat) (vs : List Value) (hs : a.eval s = .slice (some ⟨g, 0, none⟩) n cap) (hrow : Row e w g cap vs) (hn : vs.length = n) (hcap : cap ≤ maxLen)
    (ax : Option Addr) (m c : Nat) (news : List Value) (hx : a.eval x = .slice ax m c) (hm : news.length = m) (hr : Reads w ax news) (h1 : ∀ u ∈ news, u.oneCell' = true)
    (hmax : n + m ≤ maxLen) (hb : (n + m) * bts ≤ 140737488355328)
    (h : ∀ g' cap' w', Row e w' g' cap' (vs ++ news) → cap' ≤ maxLen → w.grownBy w' (some g) → g ≤ g' → wpList P ops Q rest (a.put o.dst (.slice (some ⟨g', 0, none⟩) (n + m) cap')) w') : wpList P ops Q (o :: rest) a w := by
  obtain ⟨i, h2, h3, h4, h5⟩ := info_parts hi
  have hown := hrow.own (base := g) (Nat.le_refl _) hcap
  rw [hn] at hown
  have fin : ∀ v' w', w'.ownsRow g e 1 v' (n + m) (vs ++ news) → w.grownBy w' (some g) → v' ≠ .slice none 0 0 → wpList P ops Q rest (a.put o.dst v') w' := by
    intro v' w' ho' hg' hne
    obtain ⟨hl, ⟨e1, _⟩ | ⟨g', cap', cur, rfl, hb', hh, hnc, hcm, hcs, htake⟩⟩ := ho'
    · exact absurd e1 hne
    · exact h g' cap' w' ⟨cur, hh, by omega, by omega, by rw [hl]; exact htake⟩ hcm hg' hb'
  cases ax with
  | some ad =>
    refine wpList_append_own w hgd s x t ho g e i z 1 bts ht h2 h3 h4 h5 hz1 (by decide) _ n vs hs hown ad m c news hx (by omega) ?_ h1 hmax hb (Nat.le_of_lt hrow.lt) ?_
    · intro j u hu
      rcases hr with rfl | ⟨g', off', hg, hr⟩
      · simp at hu
      · cases hg
        have := hr j u hu
        unfold Addr.add
        split
        · subst j; exact this
        · exact this
    · intro v' w' a1 a2 a3
      exact fin v' w' a1 a2 (fun e1 => by simp at a3; exact a3 e1)
  | none =>
    have : news = [] := by
      rcases hr with rfl | ⟨g', off', hg, hr⟩
      · rfl
      · cases hg
    subst this
    obtain rfl : m = 0 := by simpa using hm.symm
    have hrun : (Builtin.append_ #[t, t] o.type #[.slice (some ⟨g, 0, none⟩) n cap, .slice none 0 c]).run P w = .ok (.slice (some ⟨g, 0, none⟩) n cap) w := by
      have hle : n ≤ cap := by have := hrow.le; omega
      simp [Builtin.append_, run_underlying ht, sizeOf, typeInfo, h2, Builtin.lenOf, Builtin.firstCells, hle, storeCells]
    refine wpList_plain hgd fun K hK => ?_
    unfold Oper.wp
    simp [execOp, ho, resolve, invoke, builtin, hs, hx, hrun, Result.andThen]
    exact hK _ _ (h g cap w (by simpa using hrow) hcap ⟨rfl, rfl, rfl, Nat.le_refl _, fun _ _ _ => rfl⟩ (Nat.le_refl _))
def L (n : Nat) : List Nat := Rep.rep 4294967296 n
def V (xs : List Nat) : Nat := Rep.val 4294967296 xs
def Lim (xs : List Nat) : Prop := Rep.Dig 4294967296 xs
theorem V_L (n : Nat) : V (L n) = n := Rep.val_rep (by omega) n
theorem L_lim (n : Nat) : Lim (L n) := Rep.rep_dig (by omega) n
theorem L_zero : L 0 = [] := rfl
theorem L_len (n k : Nat) : (L n).length ≤ k ↔ n < 4294967296 ^ k := Rep.rep_length_le (by omega) n k
theorem L_nil {n : Nat} : L n = [] ↔ n = 0 := Rep.rep_eq_nil (by omega)
theorem L_len_zero {n : Nat} : (L n).length = 0 ↔ n = 0 := by rw [List.length_eq_zero_iff, L_nil]
def NumAt (w : World) (a : Option Addr) (c n : Nat) : Prop := Reads w a ((L n).map u32v) ∧ (L n).length ≤ c ∧ c ≤ maxLen
theorem NumAt.zero (w : World) : NumAt w none 0 0 := ⟨.inl rfl, by simp [L_zero], by simp [maxLen]⟩
theorem NumAt.kept {w w' : World} {a : Option Addr} {c n : Nat} (h : NumAt w a c n) (hb : Below w.heap.size w w') : NumAt w' a c n := ⟨h.1.kept hb, h.2⟩
def GivesNum (n : Nat) (w : World) (e : Ending) (w' : World) : Prop := ∃ a c, e = .returned (.slice a (L n).length c) ∧ NumAt w a c n ∧ w = w'
def GivesNew (n : Nat) (w : World) (e : Ending) (w' : World) : Prop := ∃ a c, e = .returned (.slice a (L n).length c) ∧ NumAt w' a c n ∧ Below w.heap.size w w'
def Own (B : Nat) (w : World) (a : Option Addr) (c : Nat) (xs : List Nat) : Prop :=
  c ≤ maxLen ∧ ((a = none ∧ c = 0 ∧ xs = []) ∨ ∃ g, a = some ⟨g, 0, none⟩ ∧ B ≤ g ∧ Row 68 w g c (xs.map u32v))
theorem Own.reads {B : Nat} {w : World} {a : Option Addr} {c : Nat} {xs : List Nat} (h : Own B w a c xs) : Reads w a (xs.map u32v) := by
  obtain ⟨_, ⟨rfl, rfl, rfl⟩ | ⟨g, rfl, hg, hr⟩⟩ := h
  · exact .inl rfl
  · exact hr.reads0
theorem Own.le {B : Nat} {w : World} {a : Option Addr} {c : Nat} {xs : List Nat} (h : Own B w a c xs) : xs.length ≤ c := by
  obtain ⟨_, ⟨rfl, rfl, rfl⟩ | ⟨g, rfl, hg, hr⟩⟩ := h
  · simp
  · simpa using hr.le
theorem Own.row {B : Nat} {w : World} {a : Option Addr} {c : Nat} {xs : List Nat} (h : Own B w a c xs) (hn : 0 < xs.length) : ∃ g, a = some ⟨g, 0, none⟩ ∧ B ≤ g ∧ Row 68 w g c (xs.map u32v) := by
  obtain ⟨_, ⟨rfl, rfl, rfl⟩ | h⟩ := h
  · simp at hn
  · exact h
theorem Own.mono {B B' : Nat} {w : World} {a : Option Addr} {c : Nat} {xs : List Nat} (h : Own B w a c xs) (hB : B' ≤ B) : Own B' w a c xs := by
  obtain ⟨h1, h2 | ⟨g, rfl, hg, hr⟩⟩ := h
  · exact ⟨h1, .inl h2⟩
  · exact ⟨h1, .inr ⟨g, rfl, Nat.le_trans hB hg, hr⟩⟩
theorem Own.kept {B : Nat} {w w' : World} {a : Option Addr} {c : Nat} {xs : List Nat} (h : Own B w a c xs) (hb : Below w.heap.size w w') : Own B w' a c xs := by
  obtain ⟨h1, h2 | ⟨g, rfl, hg, hr⟩⟩ := h
  · exact ⟨h1, .inl h2⟩
  · exact ⟨h1, .inr ⟨g, rfl, hg, hr.kept hb⟩⟩
theorem Own.take {B : Nat} {w : World} {a : Option Addr} {c : Nat} {xs : List Nat} (h : Own B w a c xs) (n : Nat) : Own B w a c (xs.take n) := by
  obtain ⟨h1, ⟨rfl, rfl, rfl⟩ | ⟨g, rfl, hg, hr⟩⟩ := h
  · exact ⟨h1, .inl ⟨rfl, rfl, by simp⟩⟩
  · exact ⟨h1, .inr ⟨g, rfl, hg, by rw [List.map_take]; exact hr.take n⟩⟩
theorem Own.nil (B : Nat) (w : World) : Own B w none 0 [] := ⟨by simp [maxLen], .inl ⟨rfl, rfl, rfl⟩⟩
def GivesOwn (xs : List Nat) (w : World) (e : Ending) (w' : World) : Prop := ∃ a c, e = .returned (.slice a xs.length c) ∧ Own w.heap.size w' a c xs ∧ Below w.heap.size w w'
def blk (a : Option Addr) : Option Nat := a.map (·.block)
def GivesTake (B : Nat) (a : Option Addr) (n : Nat) (w : World) (e : Ending) (w' : World) : Prop :=
  ∃ a' c', e = .returned (.slice a' (L n).length c') ∧ Own B w' a' c' (L n) ∧ (a' = none ∨ a' = a) ∧ w.grownBy w' (blk a)
theorem Own.num {B : Nat} {w : World} {a : Option Addr} {c n : Nat} (h : Own B w a c (L n)) : NumAt w a c n := ⟨h.reads, h.le, h.1⟩
def outO (m : Nat) (o : Bool) (n : Nat) : Bool := o || decide (m < (L n).length)
def outN (m : Nat) (o : Bool) (n : Nat) : Nat := if outO m o n = true then 0 else n
def Bench (w : World) (b m : Nat) (over : Bool) : Prop :=
  w.heap[b]? = some (.cells #[.int .i64 (m : Int), .bool over] 70 (0, 0))
theorem Bench.c0 {w : World} {b m : Nat} {over : Bool} (h : Bench w b m over) : w.cell? ⟨b, 0, none⟩ = some (.int .i64 (m : Int)) := by
  unfold Bench at h; simp [World.cell?, h]
theorem Bench.c1 {w : World} {b m : Nat} {over : Bool} (h : Bench w b m over) : w.cell? ⟨b, 1, none⟩ = some (.bool over) := by
  unfold Bench at h; simp [World.cell?, h]
theorem Bench.free {w : World} {b m : Nat} {over : Bool} (h : Bench w b m over) (i : Nat) : w.frozen? ⟨b, i, none⟩ = false := by
  unfold Bench at h; simp [World.frozen?, h]
theorem Bench.lt {w : World} {b m : Nat} {over : Bool} (h : Bench w b m over) : b < w.heap.size := (Array.getElem?_eq_some_iff.1 h).1
theorem Bench.of_block {w w' : World} {b m : Nat} {over : Bool} (h : Bench w b m over) (hb : w'.heap[b]? = w.heap[b]?) : Bench w' b m over := hb.trans h
theorem Bench.kept {w w' : World} {b m : Nat} {over : Bool} (h : Bench w b m over) (hb : Below w.heap.size w w') : Bench w' b m over := h.of_block (hb.block b h.lt)
theorem Bench.set {w : World} {b m : Nat} {over : Bool} (h : Bench w b m over) (o : Bool) : Bench (w.setCell ⟨b, 1, none⟩ (.bool o)) b m o := by
  unfold Bench at h ⊢
  simp [World.setCell, Array.getElem?_modify, h]
theorem Bench.apart {w : World} {b m : Nat} {over : Bool} (h : Bench w b m over) {a : Option Addr} {xs : List Nat} (hr : Reads w a (xs.map u32v)) :
    xs.map u32v = [] ∨ ∀ g off, a = some ⟨g, off, none⟩ → some g ≠ some b := by
  rcases hr with hr | ⟨g, off, rfl, hr⟩
  · exact .inl hr
  · by_cases e : xs = []
    · exact .inl (by simp [e])
    · refine .inr fun g' off' hg hb => ?_
      simp at hg hb
      obtain ⟨rfl, rfl⟩ := hg
      subst hb
      have := hr 0 _ (map_getElem? (by cases xs; exact absurd rfl e; simp))
      unfold Bench at h
      simp only [World.cell?, h] at this
      rcases off with _ | _ | off <;> simp [u32v] at this
end Go.Proofs.YtpjeecahaeaajaaGreatDoor

set_option linter.unusedVariables false
set_option linter.unusedSimpArgs false
namespace Go.Proofs.YtpjeecahaeaajaaGreatDoor
open Go.RowKit
def cmpI (a b : Int) : Int := if a < b then -1 else if a = b then 0 else 1
set_option maxHeartbeats 400000 in
theorem cmpInt_any (a b : Int) (w : World) : Calls Tryz.prog 94 #[.int .i64 a, .int .i64 b] w (Gives (.int .i64 (cmpI a b)) w) := by
  rcases Int.lt_trichotomy a b with h | h | h
  · have h1 : ¬ (b < a) := by omega
    go_enter Tryz.func94, Tryz.ntmps94
    go_wp2
    go_ret
    exact Gives.mk' (by unfold cmpI; rw [if_pos h]; rfl)
  · subst h
    go_enter Tryz.func94, Tryz.ntmps94
    go_wp2
    go_ret
    exact Gives.mk' (by unfold cmpI; rw [if_neg (by omega), if_pos rfl]; rfl)
  · have h1 : ¬ (a < b) := by omega
    go_enter Tryz.func94, Tryz.ntmps94
    go_wp2
    go_ret
    exact Gives.mk' (by unfold cmpI; rw [if_neg (by omega), if_neg (by omega)]; rfl)
set_option maxHeartbeats 400000 in
theorem cmpU32_any (a b : Int) (w : World) : Calls Tryz.prog 95 #[.int .u32 a, .int .u32 b] w (Gives (.int .i64 (cmpI a b)) w) := by
  rcases Int.lt_trichotomy a b with h | h | h
  · have h1 : ¬ (b < a) := by omega
    go_enter Tryz.func95, Tryz.ntmps95
    go_wp2
    go_ret
    exact Gives.mk' (by unfold cmpI; rw [if_pos h]; rfl)
  · subst h
    go_enter Tryz.func95, Tryz.ntmps95
    go_wp2
    go_ret
    exact Gives.mk' (by unfold cmpI; rw [if_neg (by omega), if_pos rfl]; rfl)
  · have h1 : ¬ (a < b) := by omega
    go_enter Tryz.func95, Tryz.ntmps95
    go_wp2
    go_ret
    exact Gives.mk' (by unfold cmpI; rw [if_neg (by omega), if_neg (by omega)]; rfl)
end Go.Proofs.YtpjeecahaeaajaaGreatDoor

set_option linter.unusedVariables false
set_option linter.unusedSimpArgs false
namespace Go.Proofs.YtpjeecahaeaajaaGreatDoor
open Go.RowKit Rep
def trimV (a : Option Addr) (xs : List Nat) (c : Nat) : Value := if cutAt xs xs.length = 0 then .slice none 0 0 else .slice a (cutAt xs xs.length) c
set_option maxHeartbeats 400000 in
theorem trim_any (a : Option Addr) (xs : List Nat) (c : Nat) (w : World) (hr : Reads w a (xs.map u32v)) (hc : xs.length ≤ c) (hm : c ≤ maxLen) :
    Calls Tryz.prog 71 #[.slice a xs.length c] w (Gives (trimV a xs c) w) := by
  unfold maxLen at hm
  go_enter Tryz.func71, Tryz.ntmps71
  go_wp2
  go_loop [3] (fun i => ∃ k : Nat, k ≤ xs.length ∧ i = .int .i64 k ∧ cutAt xs xs.length = cutAt xs k) (fun i => (intOf i).toNat)
  case atStart => exact ⟨xs.length, Nat.le_refl _, rfl, rfl⟩
  case round =>
    obtain ⟨k, hk, rfl, he⟩ := hrel
    have HE := Lib.hid he
    clear he
    cases k with
    | zero =>
      go_wp2
      go_ret
      exact Gives.mk' (by unfold trimV; rw [HE.out]; rfl)
    | succ k =>
      obtain ⟨g, off, rfl, hg, hcell⟩ := hr.open' (by rw [List.length_map]; omega)
      have hck := hcell k _ (map_getElem? (by omega))
      clear hcell
      unfold u32v at hck
      have HC : Hid (cutAt xs (k + 1) = if xs.getD k 0 = 0 then cutAt xs k else k + 1) := rfl
      generalize xs.getD k 0 = d at hck HC
      by_cases h0 : d = 0
      · subst h0
        go_wp2
        go_round
        case rel => exact ⟨k, by omega, by go_num, by rw [HE.out, HC.out, if_pos rfl]⟩
        case measure => simp [intOf]
      · have hb : (((d : Nat) : Int) == 0) = false := by simp; omega
        go_wp2
        go_ret
        exact Gives.mk' (by unfold trimV; rw [HE.out, HC.out, if_neg h0, if_neg (by omega)]; go_num)
end Go.Proofs.YtpjeecahaeaajaaGreatDoor

set_option linter.unusedVariables false
set_option linter.unusedSimpArgs false
namespace Go.Proofs.YtpjeecahaeaajaaGreatDoor
open Go.RowKit Rep
theorem trim_num (a : Option Addr) (xs : List Nat) (c : Nat) (w : World) (hd : Lim xs) (hr : Reads w a (xs.map u32v)) (hc : xs.length ≤ c) (hm : c ≤ maxLen) :
    Calls Tryz.prog 71 #[.slice a xs.length c] w (GivesNum (V xs) w) := by
  refine (trim_any a xs c w hr hc hm).mono ?_
  rintro e w' ⟨rfl, rfl⟩
  have hs : strip xs = L (V xs) := strip_eq (by omega) hd
  have hl := strip_length xs
  rw [hs] at hl
  unfold trimV
  split
  · rename_i h0
    have : L (V xs) = [] := List.length_eq_zero_iff.1 (by omega)
    exact ⟨none, 0, by rw [this]; rfl, ⟨.inl (by simp [this]), by rw [this]; simp, by simp [maxLen]⟩, rfl⟩
  · refine ⟨a, c, by rw [hl], ⟨?_, ?_, hm⟩, rfl⟩
    · rw [← hs]; unfold strip; rw [List.map_take]; exact hr.take _
    · have := cutAt_le xs xs.length; omega
theorem trim_at (a : Option Addr) (n c : Nat) (xs : List Nat) (hn : xs.length = n) (w : World) (hd : Lim xs) (hr : Reads w a (xs.map u32v)) (hc : n ≤ c) (hm : c ≤ maxLen) :
    Calls Tryz.prog 71 #[.slice a n c] w (GivesNum (V xs) w) := by
  subst hn
  exact trim_num a xs c w hd hr hc hm
theorem trimV_own {B : Nat} {a : Option Addr} {c : Nat} {xs : List Nat} {w : World} (hd : Lim xs) (ho : Own B w a c xs) :
    ∃ a' c', trimV a xs c = .slice a' (L (V xs)).length c' ∧ Own B w a' c' (L (V xs)) ∧ (a' = none ∨ a' = a) := by
  have hs : strip xs = L (V xs) := strip_eq (by omega) hd
  have hl := strip_length xs
  rw [hs] at hl
  unfold trimV
  split
  · rename_i h0
    have : L (V xs) = [] := List.length_eq_zero_iff.1 (by omega)
    exact ⟨none, 0, by rw [this]; rfl, by rw [this]; exact Own.nil _ _, .inl rfl⟩
  · refine ⟨a, c, by rw [hl], ?_, .inr rfl⟩
    rw [← hs]
    exact ho.take _
theorem trim_own (B : Nat) (a : Option Addr) (n c : Nat) (xs : List Nat) (hn : xs.length = n) (w : World) (hd : Lim xs) (ho : Own B w a c xs) :
    Calls Tryz.prog 71 #[.slice a n c] w fun e w' => ∃ a' c', e = .returned (.slice a' (L (V xs)).length c') ∧ Own B w a' c' (L (V xs)) ∧ (a' = none ∨ a' = a) ∧ w = w' := by
  subst hn
  refine (trim_any a xs c w ho.reads ho.le ho.1).mono ?_
  rintro e w' ⟨rfl, rfl⟩
  obtain ⟨a', c', h1, h2, h3⟩ := trimV_own hd ho
  exact ⟨a', c', by rw [h1], h2, h3, rfl⟩
theorem Lim.two {a b : Nat} (h : a < 4294967296) (k : b < 4294967296) : Lim [a, b] := Dig.cons h (Dig.cons k (Dig.nil _))
set_option maxHeartbeats 400000 in
theorem of_any (n : Nat) (hn : n < 18446744073709551616) (w : World) : Calls Tryz.prog 43 #[.int .u64 (n : Int)] w (GivesNew n w) := by
  have h1 : (n : Int) ≤ 18446744073709551615 := by omega
  have hrow : Row 68 (w.alloc (.cells #[.int .u32 ((n : Int) % 4294967296), .int .u32 ((n : Int) / 4294967296)] 68)) w.heap.size 2 ([n % 4294967296, n / 4294967296].map u32v) := by
    have := Row.new (E := 68) w #[.int .u32 ((n : Int) % 4294967296), .int .u32 ((n : Int) / 4294967296)]
    simpa [u32v] using this
  have hv : V [n % 4294967296, n / 4294967296] = n := by simp only [V, Rep.val]; omega
  have HV := Lib.hid hv
  clear hv
  have HL : Lim [n % 4294967296, n / 4294967296] := Lim.two (Nat.mod_lt _ (by omega)) (by omega)
  go_enter Tryz.func43, Tryz.ntmps43
  go_wp2_with fail
  refine (trim_num (some ⟨w.heap.size, 0, none⟩) [n % 4294967296, n / 4294967296] 2 _ HL hrow.reads0 (by simp) (by simp [maxLen])).mono ?_
  rintro e w' ⟨a, c, rfl, hat, rfl⟩
  rw [HV.out] at hat ⊢
  go_wp2_with fail
  go_ret
  exact ⟨a, c, rfl, hat, (Below.refl _ _).alloc (Nat.le_refl _) _⟩
end Go.Proofs.YtpjeecahaeaajaaGreatDoor

set_option linter.unusedVariables false
set_option linter.unusedSimpArgs false
namespace Go.Proofs.YtpjeecahaeaajaaGreatDoor
open Go.RowKit Rep
theorem Tryz.info48 : (Tryz.prog.info? 68).map (fun i => (i.zero, i.size, i.bytes)) = some (some (.int .u32 0), 1, 4) := by kernel_rfl
theorem one_u32 {xs : List Nat} : ∀ u ∈ xs.map u32v, u.oneCell' = true := by
  intro u hu
  obtain ⟨d, _, rfl⟩ := List.mem_map.1 hu
  rfl
set_option maxRecDepth 100000 in
set_option maxHeartbeats 400000 in
theorem clone_nil (c : Nat) (w : World) : Calls Tryz.prog 76 #[.slice none 0 c] w (GivesOwn [] w) := by
  have hnil := fun (w : World) (a : Option Addr) (n c : Nat) => Lib.run_eql_slice_nil (P := Tryz.prog) w 23 68 a n c 0 0 Tryz.underlying23
  go_enter Tryz.func76, Tryz.ntmps76
  go_wp2_with fail
  go_ret
  exact ⟨none, 0, rfl, Own.nil _ _, Below.refl _ _⟩
set_option maxRecDepth 100000 in
set_option maxHeartbeats 400000 in
theorem clone_some (p : Addr) (xs : List Nat) (c : Nat) (w : World) (hr : Reads w (some p) (xs.map u32v)) (hl : xs.length ≤ 1073741824) :
    Calls Tryz.prog 76 #[.slice (some p) xs.length c] w (GivesOwn xs w) := by
  have hnil := fun (w : World) (a : Option Addr) (n c : Nat) => Lib.run_eql_slice_nil (P := Tryz.prog) w 23 68 a n c 0 0 Tryz.underlying23
  go_enter Tryz.func76, Tryz.ntmps76
  have hrow : Row 68 (w.alloc (.cells #[] 68)) w.heap.size 0 [] := by simpa using Row.new (E := 68) w #[]
  have hr' := hr.kept ((Below.refl w.heap.size w).alloc (Nat.le_refl _) (.cells #[] 68))
  go_wp2_with (at_builtin; refine wpList_append_row _ rfl (.tmp 5) (.tmp 6) 23 rfl 68 (.int .u32 0) 4 Tryz.underlying23 Tryz.info48 rfl w.heap.size 0 0 [] rfl hrow rfl (by simp [maxLen]) (some p) xs.length c (xs.map u32v) rfl (by simp) hr' one_u32 (by unfold maxLen; omega) (by omega) ?_; intro g' cap' w' hrow' hcap hgrow hg')
  go_ret
  refine ⟨some ⟨g', 0, none⟩, cap', by simp, ⟨hcap, .inr ⟨g', rfl, hg', by simpa using hrow'⟩⟩, ?_⟩
  exact ((Below.refl _ _).alloc (Nat.le_refl _) _).grown hgrow (by simp) (fun k hk => by cases hk; exact Nat.le_refl _)
end Go.Proofs.YtpjeecahaeaajaaGreatDoor

set_option linter.unusedVariables false
set_option linter.unusedSimpArgs false
namespace Go.Proofs.YtpjeecahaeaajaaGreatDoor
open Go.RowKit Rep
def ShlIn (w : World) (xs : List Nat) (s k : Nat) (wr : World) : Prop :=
  ∃ Q : List Nat, Row 68 wr w.heap.size (xs.length + 1) (Q.map u32v) ∧ Q.length = xs.length + 1 ∧ Lim Q ∧ V Q = V (xs.take k) * 2 ^ s ∧ Q.getD k 0 < 2 ^ s ∧ (∀ j, k < j → Q.getD j 0 = 0) ∧ Below w.heap.size w wr
theorem or_low {q a s : Nat} (hq : q < 2 ^ s) : q ||| (2 ^ s * a) = q + 2 ^ s * a := by
  rw [Nat.or_comm, ← Nat.two_pow_add_eq_or_of_lt hq, Nat.add_comm]
theorem shl_step {x q s : Nat} (hx : x < 4294967296) (hs : s < 32) (hq : q < 2 ^ s) :
    ∃ W : Nat, IntKind.u64.wrap ((x : Int) * 2 ^ s) = (W : Int) ∧ W = x * 2 ^ s ∧ W ≤ 9223372036854775807 ∧ W / 4294967296 < 2 ^ s ∧ q + W % 4294967296 < 4294967296 ∧
      bits BinOp.or IntKind.u32 (q : Int) ((W : Int) % 4294967296) = ((q + W % 4294967296 : Nat) : Int) := by
  have h1 : 2 ^ s ≤ 2 ^ 31 := Nat.pow_le_pow_right (by omega) (by omega)
  have h2 : x * 2 ^ s ≤ 4294967295 * 2 ^ 31 := Nat.mul_le_mul (by omega) h1
  have hpos : 0 < 2 ^ s := Nat.two_pow_pos s
  have hB : 4294967296 = 2 ^ s * 2 ^ (32 - s) := by rw [← Nat.pow_add, show s + (32 - s) = 32 from by omega]
  have hm : x * 2 ^ s % 4294967296 = 2 ^ s * (x % 2 ^ (32 - s)) := by
    rw [hB, Nat.mul_comm x, Nat.mul_mod_mul_left]
  have hlt : q + x * 2 ^ s % 4294967296 < 4294967296 := by
    rw [hm]
    have h3 : x % 2 ^ (32 - s) < 2 ^ (32 - s) := Nat.mod_lt _ (Nat.two_pow_pos _)
    have h4 : 2 ^ s * (x % 2 ^ (32 - s) + 1) ≤ 2 ^ s * 2 ^ (32 - s) := Nat.mul_le_mul_left _ h3
    rw [← hB, Nat.mul_add, Nat.mul_one] at h4
    omega
  refine ⟨x * 2 ^ s, ?_, rfl, by omega, ?_, hlt, ?_⟩
  · have : ((x : Int) * 2 ^ s) = ((x * 2 ^ s : Nat) : Int) := by push_cast; rfl
    rw [this]
    exact IntWalk.u64_in _ (by omega)
  · rw [Nat.div_lt_iff_lt_mul (by omega)]
    rw [Nat.mul_comm x]
    exact Nat.mul_lt_mul_of_pos_left hx hpos
  · have := u32_or_nat q (x * 2 ^ s % 4294967296) (by omega) (by omega)
    rw [show ((x * 2 ^ s : Nat) : Int) % 4294967296 = ((x * 2 ^ s % 4294967296 : Nat) : Int) from by omega, this, hm, or_low hq]
theorem ShlIn.start (w : World) (xs : List Nat) (s : Nat) : ShlIn w xs s 0 (w.alloc (.cells (zrow .u32 (xs.length + 1)) 68)) :=
  ⟨List.replicate (xs.length + 1) 0, by rw [List.map_replicate]; exact Row.zrow .u32 w _, by simp, Dig.replicate _ _ _ (by omega), by
    simp only [List.take_zero, V, Rep.val, val_zeros, Nat.zero_mul], by
    rw [List.getD_eq_getElem?_getD, List.getElem?_replicate]; split <;> exact Nat.two_pow_pos s, fun j _ => by
    rw [List.getD_eq_getElem?_getD, List.getElem?_replicate]; split <;> rfl, (Below.refl _ _).alloc (Nat.le_refl _) _⟩
theorem ShlIn.step {w : World} {xs : List Nat} {s k : Nat} {ax : Option Addr} {wr : World} (h : ShlIn w xs s k wr) (hk : k < xs.length) (hx : Lim xs) (rx : Reads w ax (xs.map u32v)) (hs : s < 32) :
    ∃ x q q' : Nat, x < 4294967296 ∧ q < 2 ^ s ∧ (∃ g off, ax = some ⟨g, off, none⟩ ∧ wr.cell? ⟨g, off + k, none⟩ = some (.int .u32 x)) ∧ wr.cell? ⟨w.heap.size, k, none⟩ = some (.int .u32 q) ∧ wr.frozen? ⟨w.heap.size, k, none⟩ = false
         ∧ wr.cell? ⟨w.heap.size, k + 1, none⟩ = some (.int .u32 q') ∧ wr.frozen? ⟨w.heap.size, k + 1, none⟩ = false ∧
      ∀ W, W = x * 2 ^ s → W / 4294967296 < 2 ^ s → q + W % 4294967296 < 4294967296 → ShlIn w xs s (k + 1) ((wr.setCell ⟨w.heap.size, k, none⟩ (.int .u32 ((q + W % 4294967296 : Nat) : Int))).setCell ⟨w.heap.size, k + 1, none⟩ (.int .u32 ((W / 4294967296 : Nat) : Int))) := by
  obtain ⟨Q, h1, h2, h3, h4, h5, h6, h7⟩ := h
  obtain ⟨g, off, rfl, hg, hcell⟩ := rx.open' (by rw [List.length_map]; omega)
  refine ⟨xs.getD k 0, Q.getD k 0, Q.getD (k + 1) 0, hx.getD k (by omega), h5, ⟨g, off, rfl, (h7.cell (p := ⟨g, off + k, none⟩) hg).trans (hcell k _ (map_getElem? hk))⟩, h1.cell _ _ (map_getElem? (by omega)), h1.frozen _, h1.cell _ _ (map_getElem? (by omega)), h1.frozen _, fun W hW hW1 hW2 => ?_⟩
  have hp : 2 ^ s ≤ 2 ^ 31 := Nat.pow_le_pow_right (by omega) (by omega)
  refine ⟨(Q.set k (Q.getD k 0 + W % 4294967296)).set (k + 1) (W / 4294967296), ?_, by simpa using h2, (h3.set _ _ hW2).set _ _ (by omega), ?_, ?_, fun j hj => ?_, (h7.setCell (p := ⟨w.heap.size, k, none⟩) (Nat.le_refl _) _).setCell (p := ⟨w.heap.size, k + 1, none⟩) (Nat.le_refl _) _⟩
  · have := (h1.set k (u32v (Q.getD k 0 + W % 4294967296))).set (k + 1) (u32v (W / 4294967296))
    rwa [← List.map_set, ← List.map_set] at this
  · have e1 := val_set 4294967296 Q k (Q.getD k 0 + W % 4294967296) (by omega)
    have e2 := val_set 4294967296 (Q.set k (Q.getD k 0 + W % 4294967296)) (k + 1) (W / 4294967296) (by simp; omega)
    rw [Rep.getD_set_ne (by omega), h6 (k + 1) (by omega), Nat.mul_zero, Nat.add_zero] at e2
    unfold V at h4 ⊢
    rw [e2, val_take_succ', Nat.add_mul, ← h4, Nat.pow_succ]
    have e3 := Nat.mod_add_div W 4294967296
    have e4 : 4294967296 ^ k * (W % 4294967296) + 4294967296 ^ k * 4294967296 * (W / 4294967296) = 4294967296 ^ k * W := by rw [Nat.mul_assoc, ← Nat.mul_add, e3]
    have e5 : 4294967296 ^ k * W = 4294967296 ^ k * xs.getD k 0 * 2 ^ s := by rw [hW, Nat.mul_assoc]
    rw [Nat.mul_add] at e1
    omega
  · rw [getD_set_self (by simp; omega)]; exact hW1
  · rw [Rep.getD_set_ne (by omega), Rep.getD_set_ne (by omega)]; exact h6 j (by omega)
def GivesShl (xs : List Nat) (s : Nat) (w : World) (e : Ending) (w' : World) : Prop :=
  ∃ Q : List Nat, e = .returned (.slice (some ⟨w.heap.size, 0, none⟩) (xs.length + 1) (xs.length + 1)) ∧
      Row 68 w' w.heap.size (xs.length + 1) (Q.map u32v) ∧ Q.length = xs.length + 1 ∧ Lim Q ∧ V Q = V xs * 2 ^ s ∧ Below w.heap.size w w'
set_option maxRecDepth 100000 in
set_option maxHeartbeats 400000 in
theorem shiftLeft_any (ax : Option Addr) (xs : List Nat) (cx s : Nat) (w : World) (hx : Lim xs) (rx : Reads w ax (xs.map u32v)) (lx : xs.length ≤ 1073741824) (hs : s < 32) :
    Calls Tryz.prog 112 #[.slice ax xs.length cx, .int .i64 (s : Int)] w (GivesShl xs s w) := by
  have hmk := make_run (P := Tryz.prog) Tryz.underlying23 Tryz.info48 (↑xs.length + 1) (↑xs.length + 1) (xs.length + 1) (xs.length + 1) (by simp) (by simp) (Nat.le_refl _) (by omega) (by unfold maxLen; omega)
  have HS := Lib.hid (ShlIn.start w xs s)
  go_enter Tryz.func112, Tryz.ntmps112
  go_wp2_with fail
  clear hmk
  go_loopw [15] (fun i wr => ∃ k : Nat, k ≤ xs.length ∧ i = .int .i64 k ∧ ShlIn w xs s k wr) (fun i _ => xs.length - (intOf i).toNat)
  case atStart => exact ⟨0, by omega, rfl, HS.out⟩
  case round =>
    obtain ⟨k, hk, rfl, hin⟩ := hrel
    by_cases hlt : k < xs.length
    · obtain ⟨x, q, q', hx1, hq, ⟨g, off, rfl, hcx⟩, hcq, hfq, hcq', hfq', hnext⟩ := hin.step hlt hx rx hs
      obtain ⟨W, hw, hW, hWb, hW1, hW2, hor⟩ := shl_step hx1 hs hq
      have HN := Lib.hid (hnext W hW hW1 hW2)
      clear hin rx hnext hW
      go_wp2_with fail
      go_roundw
      case rel => exact ⟨k + 1, by omega, by go_num, HN.out⟩
      case measure => simp [intOf]; omega
    · obtain rfl : k = xs.length := by omega
      obtain ⟨Q, h1, h2, h3, h4, h5, h6, h7⟩ := hin
      rw [List.take_length] at h4
      have HV := Lib.hid h4
      have HL := Lib.hid h2
      clear h2 h4 h6 h5
      go_wp2_with fail
      go_ret
      exact ⟨Q, rfl, h1, HL.out, h3, HV.out, h7⟩
end Go.Proofs.YtpjeecahaeaajaaGreatDoor

set_option linter.unusedVariables false
set_option linter.unusedSimpArgs false
namespace Go.Proofs.YtpjeecahaeaajaaGreatDoor
open Go.RowKit Rep
def shrL (s : Nat) : List Nat → List Nat
  | [] => []
  | d :: l => (d + 4294967296 * l.headD 0) / 2 ^ s % 4294967296 :: shrL s l
theorem shrL_length (s : Nat) (l : List Nat) : (shrL s l).length = l.length := by
  induction l with
  | nil => rfl
  | cons d l ih => simp [shrL, ih]
theorem shrL_getD (s : Nat) : ∀ (l : List Nat) (j : Nat), j < l.length → (shrL s l).getD j 0 = (l.getD j 0 + 4294967296 * l.getD (j + 1) 0) / 2 ^ s % 4294967296 := by
  intro l
  induction l with
  | nil => intro j h; simp at h
  | cons d l ih =>
    intro j h
    cases j with
    | zero => cases l <;> simp [shrL]
    | succ j => simpa [shrL] using ih j (by simpa using h)
theorem shrL_lim (s : Nat) (l : List Nat) : Lim (shrL s l) := by
  induction l with
  | nil => exact Dig.nil _
  | cons d l ih => exact Dig.cons (Nat.mod_lt _ (by omega)) ih
theorem shrL_val (s : Nat) (hs : s < 32) : ∀ l : List Nat, Lim l → V (shrL s l) = V l / 2 ^ s := by
  intro l
  induction l with
  | nil => intro _; simp [shrL, V, Rep.val]
  | cons d l ih =>
    intro hl
    have h1 := ih hl.tail
    unfold V at h1 ⊢
    simp only [shrL, Rep.val, h1]
    have hh : (d + 4294967296 * l.headD 0) / 2 ^ s % 4294967296 = (d + 4294967296 * val 4294967296 l) / 2 ^ s % 4294967296 := by
      have h2 : ∃ m, d + 4294967296 * val 4294967296 l = d + 4294967296 * l.headD 0 + 2 ^ s * (4294967296 * m) := by
        cases l with
        | nil => exact ⟨0, by simp [Rep.val]⟩
        | cons e l =>
          have hB : 4294967296 = 2 ^ s * 2 ^ (32 - s) := by rw [← Nat.pow_add, show s + (32 - s) = 32 from by omega]
          refine ⟨2 ^ (32 - s) * val 4294967296 l, ?_⟩
          simp only [Rep.val, List.headD_cons]
          rw [show 2 ^ s * (4294967296 * (2 ^ (32 - s) * val 4294967296 l)) = 4294967296 * ((2 ^ s * 2 ^ (32 - s)) * val 4294967296 l) from by ac_rfl, ← hB]
          omega
      obtain ⟨m, hm⟩ := h2
      rw [hm, Nat.add_mul_div_left _ _ (Nat.two_pow_pos s), Nat.add_mul_mod_self_left]
    rw [hh]
    have h3 : (d + 4294967296 * val 4294967296 l) / 2 ^ s / 4294967296 = val 4294967296 l / 2 ^ s := by
      rw [Nat.div_div_eq_div_mul, Nat.mul_comm (2 ^ s), ← Nat.div_div_eq_div_mul, Nat.add_mul_div_left _ _ (by omega), Nat.div_eq_of_lt hl.head, Nat.zero_add]
    rw [← h3]
    exact Nat.mod_add_div _ _
theorem shr_step {x y : Nat} (hx : x < 4294967296) (hy : y < 4294967296) :
    ∃ W : Nat, bits BinOp.or IntKind.u64 (x : Int) ((y : Int) * 4294967296) = (W : Int) ∧ W = x + 4294967296 * y ∧ W < 18446744073709551616 := by
  refine ⟨x + 4294967296 * y, ?_, rfl, by omega⟩
  have := u64_or_nat x (4294967296 * y) (by omega) (by omega)
  rw [show (y : Int) * 4294967296 = ((4294967296 * y : Nat) : Int) from by omega, this]
  rw [show 4294967296 = 2 ^ 32 from rfl, or_low (by omega)]
def ShrIn (w : World) (g cap : Nat) (xs : List Nat) (p s k : Nat) (wr : World) : Prop :=
  ∃ Q : List Nat, Row 68 wr g cap (Q.map u32v) ∧ Q.length = xs.length ∧ (∀ j, k ≤ j → Q.getD j 0 = xs.getD j 0) ∧
    (∀ j, j < k → Q.getD j 0 = (xs.getD (j + p) 0 + 4294967296 * xs.getD (j + p + 1) 0) / 2 ^ s % 4294967296) ∧ w.grownBy wr (some g)
theorem ShrIn.step {w : World} {g cap : Nat} {xs : List Nat} {p s k : Nat} {wr : World} (h : ShrIn w g cap xs p s k wr) (hk : k + p < xs.length) (hx : Lim xs) :
    ∃ x y q : Nat, x < 4294967296 ∧ y < 4294967296 ∧ q < 4294967296 ∧ wr.cell? ⟨g, k + p, none⟩ = some (.int .u32 x) ∧ (k + p + 1 < xs.length → wr.cell? ⟨g, k + p + 1, none⟩ = some (.int .u32 y)) ∧ (xs.length ≤ k + p + 1 → y = 0) ∧
      wr.cell? ⟨g, k, none⟩ = some (.int .u32 q) ∧ wr.frozen? ⟨g, k, none⟩ = false ∧
      ∀ W, W = x + 4294967296 * y → ShrIn w g cap xs p s (k + 1) (wr.setCell ⟨g, k, none⟩ (.int .u32 ((W / 2 ^ s % 4294967296 : Nat) : Int))) := by
  obtain ⟨Q, h1, h2, h3, h4, h5⟩ := h
  have e1 := h3 (k + p) (by omega)
  have hc1 := h1.cell (k + p) _ (map_getElem? (xs := Q) (by omega))
  rw [e1] at hc1
  refine ⟨xs.getD (k + p) 0, xs.getD (k + p + 1) 0, Q.getD k 0, hx.getD _ (by omega), hx.getD _ (by omega), by rw [h3 k (Nat.le_refl _)]; exact hx.getD _ (by omega), hc1, fun hh => ?_, fun hh => getD_ge hh, h1.cell _ _ (map_getElem? (by omega)), h1.frozen _, fun W hW => ?_⟩
  · have := h1.cell (k + p + 1) _ (map_getElem? (xs := Q) (by omega))
    rwa [h3 (k + p + 1) (by omega)] at this
  · refine ⟨Q.set k (W / 2 ^ s % 4294967296), ?_, by simpa using h2, fun j hj => ?_, fun j hj => ?_, ⟨h5.os, h5.tape, h5.output, by have := h5.size; simpa [World.setCell] using this, fun j hj hne => ?_⟩⟩
    · have := h1.set k (u32v (W / 2 ^ s % 4294967296))
      rwa [← List.map_set] at this
    · rw [Rep.getD_set_ne (by omega)]; exact h3 j (by omega)
    · by_cases e : j = k
      · subst e; rw [getD_set_self (by omega), hW]
      · rw [Rep.getD_set_ne (by omega)]; exact h4 j (by omega)
    · rw [Below.heap_setCell _ _ _ _ (by simpa using hne)]
      exact h5.block j hj hne
theorem ShrIn.done {w : World} {g cap : Nat} {xs : List Nat} {p s k : Nat} {wr : World} (h : ShrIn w g cap xs p s k wr) (hk : k + p = xs.length) (hx : Lim xs) (hs : s < 32) :
    ∃ Q : List Nat, Row 68 wr g cap (Q.map u32v) ∧ Q.length = k ∧ Lim Q ∧ V Q = V xs / 2 ^ (32 * p + s) ∧ w.grownBy wr (some g) := by
  obtain ⟨Q, h1, h2, h3, h4, h5⟩ := h
  have he : Q.take k = shrL s (xs.drop p) := by
    apply List.ext_getElem
    · rw [shrL_length, List.length_take, List.length_drop]; omega
    · intro j hj1 hj2
      have hjk : j < k := by rw [List.length_take] at hj1; omega
      have a1 : (Q.take k)[j] = Q.getD j 0 := by rw [List.getElem_take, getD_lt]
      have a2 : (shrL s (xs.drop p))[j] = (shrL s (xs.drop p)).getD j 0 := by rw [getD_lt hj2]
      rw [a1, a2, shrL_getD s _ _ (by rw [shrL_length] at hj2; exact hj2), h4 j hjk]
      simp only [List.getD_eq_getElem?_getD, List.getElem?_drop]
      rw [Nat.add_comm p j, show p + (j + 1) = j + p + 1 from by omega]
  refine ⟨Q.take k, by rw [List.map_take]; exact h1.take k, by rw [List.length_take]; omega, by rw [he]; exact shrL_lim s _, ?_, h5⟩
  rw [he, shrL_val s hs _ (hx.drop p)]
  have h6 := val_take_drop 4294967296 p xs (by omega)
  have h7 : val 4294967296 (xs.take p) < 4294967296 ^ p := by
    have := val_lt (hx.take p)
    rwa [List.length_take, Nat.min_eq_left (by omega)] at this
  have h8 : V xs / 4294967296 ^ p = V (xs.drop p) := by
    unfold V
    rw [h6, Nat.add_mul_div_left _ _ (Nat.pow_pos (by omega)), Nat.div_eq_of_lt h7, Nat.zero_add]
  rw [← h8, Nat.div_div_eq_div_mul, Nat.pow_add, Nat.pow_mul]
set_option maxRecDepth 100000 in
set_option maxHeartbeats 1000000 in
theorem shiftRight_row (B g cx p s : Nat) (xs : List Nat) (w : World) (hx : Lim xs) (hg : B ≤ g) (hcx : cx ≤ maxLen) (hrow : Row 68 w g cx (xs.map u32v)) (lx : xs.length ≤ 1073741824) (hs : s < 32) (hp : p ≤ xs.length) :
    Calls Tryz.prog 109 #[.slice (some ⟨g, 0, none⟩) xs.length cx, .int .i64 ((32 * p + s : Nat) : Int)] w (GivesTake B (some ⟨g, 0, none⟩) (V xs / 2 ^ (32 * p + s)) w) := by
  have hlc := hrow.le
  rw [List.length_map] at hlc
  have HS : ShrIn w g cx xs p s 0 w := ⟨xs, hrow, rfl, fun _ _ => rfl, fun _ h => by omega, ⟨rfl, rfl, rfl, Nat.le_refl _, fun _ _ _ => rfl⟩⟩
  clear hrow
  have d1 : ((32 * p + s : Nat) : Int) / 32 = (p : Int) := by omega
  have d2 : ((32 * p + s : Nat) : Int) % 32 = (s : Int) := by omega
  have hb : ((32 * p + s : Nat) : Int) ≤ 1099511627776 := by omega
  have hb0 : 0 ≤ ((32 * p + s : Nat) : Int) := by omega
  generalize ((32 * p + s : Nat) : Int) = by' at d1 d2 hb hb0
  go_enter Tryz.func109, Tryz.ntmps109
  go_wp2_with fail
  obtain ⟨n, hn⟩ : ∃ n, n + p = xs.length := ⟨xs.length - p, by omega⟩
  rw [d1, d2, show ((xs.length : Int) - (p : Int)) = (n : Int) from by omega]
  clear d1 d2 hb hb0
  have HNL := Lib.hid hn
  have hnp : n + p ≤ xs.length := by omega
  have hnp' : xs.length ≤ n + p := by omega
  clear hn
  go_loopw [18] (fun i wr => ∃ k : Nat, k ≤ n ∧ i = .int .i64 k ∧ ShrIn w g cx xs p s k wr) (fun i _ => n - (intOf i).toNat)
  case atStart => exact ⟨0, by omega, rfl, HS⟩
  case round =>
    obtain ⟨k, hk, rfl, hin⟩ := hrel
    by_cases hlt : k < n
    · obtain ⟨x, y, q, hx1, hy1, hq1, hcx1, hcy, hy0, hcq, hfq, hnext⟩ := hin.step (by omega) hx
      obtain ⟨W, hor, hW, hWb⟩ := shr_step hx1 hy1
      have HN := Lib.hid (hnext W hW)
      clear hin hnext
      by_cases hkl : k + p + 1 < xs.length
      · have hcy' := hcy hkl
        clear hcy hy0 hW
        go_wp2_with fail
        go_roundw
        case rel => exact ⟨k + 1, by omega, by go_num, HN.out⟩
        case measure => simp [intOf]; omega
      · obtain rfl := hy0 (by omega)
        obtain rfl : W = x := by omega
        clear hor hcy hy0 hW
        go_wp2_with fail
        go_roundw
        case rel => exact ⟨k + 1, by omega, by go_num, HN.out⟩
        case measure => simp [intOf]; omega
    · obtain rfl : k = n := by omega
      obtain ⟨Q, hQr, hQl, hQd, hQv, hQg⟩ := hin.done HNL.out hx hs
      have HL := Lib.hid hQl
      have HV := Lib.hid hQv
      clear hin hQl hQv
      go_wp2_with fail
      refine (trim_own B _ _ cx Q HL.out wr hQd ⟨hcx, .inr ⟨g, rfl, hg, hQr⟩⟩).mono ?_
      rintro e w' ⟨a', c', rfl, ho, ha, rfl⟩
      rw [HV.out] at ho ⊢
      clear hQd hQr
      go_wp2_with fail
      go_ret
      exact ⟨a', c', rfl, ho, ha, hQg⟩
end Go.Proofs.YtpjeecahaeaajaaGreatDoor

set_option linter.unusedVariables false
set_option linter.unusedSimpArgs false
namespace Go.Proofs.YtpjeecahaeaajaaGreatDoor
open Go.RowKit Rep
def GivesBench (m : Nat) (w : World) (e : Ending) (w' : World) : Prop := e = .returned (.pointer (some ⟨w.heap.size, 0, none⟩)) ∧ w' = w.alloc (.cells #[.int .i64 (m : Int), .bool false] 70)
set_option maxHeartbeats 400000 in
theorem new_low (n : Int) (w : World) (h : n < 1) : Calls Tryz.prog 13 #[.int .i64 n] w (GivesBench 1 w) := by
  go_enter Tryz.func13, Tryz.ntmps13
  go_wp2
  go_ret
  exact ⟨rfl, rfl⟩
set_option maxHeartbeats 400000 in
theorem new_high (m : Nat) (w : World) (h : 1 ≤ m) (hm : m ≤ maxLen) : Calls Tryz.prog 13 #[.int .i64 (m : Int)] w (GivesBench m w) := by
  unfold maxLen at hm
  have h' : (1 : Int) ≤ (m : Int) := by omega
  go_enter Tryz.func13, Tryz.ntmps13
  go_wp2
  go_ret
  exact ⟨rfl, rfl⟩
set_option maxHeartbeats 400000 in
theorem over_any (w : World) (b m : Nat) (o : Bool) (h : Bench w b m o) : Calls Tryz.prog 28 #[.pointer (some ⟨b, 0, none⟩)] w (Gives (.bool o) w) := by
  have h1 := h.c1
  clear h
  go_enter Tryz.func28, Tryz.ntmps28
  go_wp2
  go_ret
  exact Gives.mk' rfl
def GivesFit (b m : Nat) (o : Bool) (a : Option Addr) (n c : Nat) (w : World) (e : Ending) (w' : World) : Prop :=
  e = .returned (if (o || decide (m < n)) = true then .slice none 0 0 else .slice a n c) ∧ w' = w.setCell ⟨b, 1, none⟩ (.bool (o || decide (m < n)))
theorem GivesFit.yes {b m : Nat} {o : Bool} {a : Option Addr} {n c : Nat} {w : World} (h : (o || decide (m < n)) = true) : GivesFit b m o a n c w (.returned (.slice none 0 0)) (w.setCell ⟨b, 1, none⟩ (.bool true)) := by
  unfold GivesFit; rw [if_pos h, h]; exact ⟨rfl, rfl⟩
theorem GivesFit.no {b m : Nat} {o : Bool} {a : Option Addr} {n c : Nat} {w : World} (h : (o || decide (m < n)) = false) : GivesFit b m o a n c w (.returned (.slice a n c)) (w.setCell ⟨b, 1, none⟩ (.bool false)) := by
  unfold GivesFit; rw [if_neg (by simp [h]), h]; exact ⟨rfl, rfl⟩
set_option maxHeartbeats 400000 in
theorem fit_over (w : World) (b m : Nat) (a : Option Addr) (n c : Nat) (h : Bench w b m true) : Calls Tryz.prog 81 #[.pointer (some ⟨b, 0, none⟩), .slice a n c] w (GivesFit b m true a n c w) := by
  have h0 := h.c0
  have h1 := h.c1
  have h2 := h.free 1
  clear h
  go_enter Tryz.func81, Tryz.ntmps81
  go_wp2
  go_ret
  exact ⟨rfl, rfl⟩
set_option maxHeartbeats 400000 in
theorem fit_great (w : World) (b m : Nat) (a : Option Addr) (n c : Nat) (h : Bench w b m false) (hn : m < n) : Calls Tryz.prog 81 #[.pointer (some ⟨b, 0, none⟩), .slice a n c] w (GivesFit b m false a n c w) := by
  have h0 := h.c0
  have h1 := h.c1
  have h2 := h.free 1
  clear h
  go_enter Tryz.func81, Tryz.ntmps81
  go_wp2
  go_ret
  exact GivesFit.yes (b := b) (m := m) (o := false) (a := a) (n := n) (by rw [Bool.false_or]; exact decide_eq_true (by omega))
set_option maxHeartbeats 400000 in
theorem fit_fits (w : World) (b m : Nat) (a : Option Addr) (n c : Nat) (h : Bench w b m false) (hn : n ≤ m) : Calls Tryz.prog 81 #[.pointer (some ⟨b, 0, none⟩), .slice a n c] w (GivesFit b m false a n c w) := by
  have h0 := h.c0
  have h1 := h.c1
  have h2 := h.free 1
  clear h
  have hd : decide (m < n) = false := decide_eq_false (by omega)
  go_enter Tryz.func81, Tryz.ntmps81
  go_wp2
  go_ret
  exact GivesFit.no (b := b) (m := m) (o := false) (a := a) (n := n) hd
theorem fit_any (w : World) (b m : Nat) (o : Bool) (a : Option Addr) (n c : Nat) (h : Bench w b m o) : Calls Tryz.prog 81 #[.pointer (some ⟨b, 0, none⟩), .slice a n c] w (GivesFit b m o a n c w) := by
  cases o with
  | true => exact fit_over w b m a n c h
  | false =>
    by_cases hn : m < n
    · exact fit_great w b m a n c h hn
    · exact fit_fits w b m a n c h (by omega)
def GivesOut (b m : Nat) (o : Bool) (n : Nat) (w : World) (e : Ending) (w' : World) : Prop :=
  ∃ a c, e = .returned (.slice a (L (outN m o n)).length c) ∧ NumAt w' a c (outN m o n) ∧ Bench w' b m (outO m o n) ∧ w.grownBy w' (some b)
theorem GivesOut.over {b m n : Nat} {w : World} (h : Bench w b m true) : GivesOut b m true n w (.returned (.slice none 0 0)) w :=
  ⟨none, 0, by simp [outN, outO, L_zero], by simp only [outN, outO, Bool.true_or, if_true]; exact NumAt.zero w, h, ⟨rfl, rfl, rfl, Nat.le_refl _, fun _ _ _ => rfl⟩⟩
theorem fit_out (w w1 : World) (b m : Nat) (o : Bool) (a : Option Addr) (n c : Nat) (h : Bench w b m o) (hn : NumAt w1 a c n) (hb : Below w.heap.size w w1) :
    Calls Tryz.prog 81 #[.pointer (some ⟨b, 0, none⟩), .slice a (L n).length c] w1 (GivesOut b m o n w) := by
  have h1 := h.kept hb
  refine (fit_any w1 b m o a _ c h1).mono ?_
  rintro e w' ⟨rfl, rfl⟩
  have ho : outO m o n = (o || decide (m < (L n).length)) := rfl
  have hs := h1.set (o || decide (m < (L n).length))
  have hg : w.grownBy (w1.setCell ⟨b, 1, none⟩ (.bool (o || decide (m < (L n).length)))) (some b) :=
    ⟨hb.os, hb.tape, hb.output, by have := hb.size; simpa [World.setCell] using this, fun k hk hne => by
      rw [Below.heap_setCell _ _ _ _ (by simpa using hne)]; exact hb.block k hk⟩
  unfold GivesOut outN
  rw [ho]
  split
  · exact ⟨none, 0, rfl, NumAt.zero _, hs, hg⟩
  · refine ⟨a, c, rfl, ⟨?_, hn.2⟩, hs, hg⟩
    have hap := h1.apart hn.1
    refine hn.1.grown (row := some b) ⟨rfl, rfl, rfl, by simp [World.setCell], fun k hk hne => ?_⟩ hap
    rw [Below.heap_setCell _ _ _ _ (by simpa using hne)]
end Go.Proofs.YtpjeecahaeaajaaGreatDoor

set_option linter.unusedVariables false
set_option linter.unusedSimpArgs false
namespace Go.Proofs.YtpjeecahaeaajaaGreatDoor
open Go.RowKit Rep
def AddOut (w : World) (ax ay : Option Addr) (cx cy : Nat) (xs ys : List Nat) (k c : Nat) (wr : World) : Prop :=
  ∃ S : List Nat, Row 68 wr w.heap.size (max xs.length ys.length + 1) (S.map u32v) ∧ S.length = max xs.length ys.length ∧ Lim S ∧
    V (S.take k) + c * 4294967296 ^ k = V (xs.take k) + V (ys.take k) ∧
    wr.heap[w.heap.size + 1]? = some (.cells #[.slice ax xs.length cx, .slice ay ys.length cy] 122 (0, 0)) ∧ Below w.heap.size w wr
theorem AddOut.start (w : World) (ax ay : Option Addr) (cx cy : Nat) (xs ys : List Nat) (n : Nat) (hn : n = max xs.length ys.length) :
    AddOut w ax ay cx cy xs ys 0 0 ((w.alloc (.cells (zrow .u32 (n + 1)) 68)).alloc (.cells #[.slice ax xs.length cx, .slice ay ys.length cy] 122)) := by
  subst hn
  refine ⟨List.replicate (max xs.length ys.length) 0, ?_, by simp, Dig.replicate _ _ _ (by omega), by simp [V, Rep.val], ?_, ((Below.refl _ _).alloc (Nat.le_refl _) _).alloc (by simp) _⟩
  · have h1 := (Row.zrow (E := 68) .u32 w (max xs.length ys.length + 1)).take (max xs.length ys.length)
    rw [List.take_replicate, Nat.min_eq_left (by omega)] at h1
    rw [List.map_replicate]
    exact h1.alloc _
  · have := heap_alloc_new (w.alloc (.cells (zrow .u32 (max xs.length ys.length + 1)) 68)) (.cells #[.slice ax xs.length cx, .slice ay ys.length cy] 122)
    rwa [World.size_alloc] at this
theorem AddOut.step {w : World} {ax ay : Option Addr} {cx cy : Nat} {xs ys : List Nat} {k c : Nat} {wr : World} (h : AddOut w ax ay cx cy xs ys k c wr) (hk : k < max xs.length ys.length) :
    (∃ q : Nat, wr.cell? ⟨w.heap.size, k, none⟩ = some (.int .u32 q)) ∧ wr.frozen? ⟨w.heap.size, k, none⟩ = false ∧
    wr.cell? ⟨w.heap.size + 1, 0, none⟩ = some (.slice ax xs.length cx) ∧ wr.cell? ⟨w.heap.size + 1, 1, none⟩ = some (.slice ay ys.length cy) ∧ Below w.heap.size w wr ∧
    ∀ t : Nat, t = c + xs.getD k 0 + ys.getD k 0 → AddOut w ax ay cx cy xs ys (k + 1) (t / 4294967296) (wr.setCell ⟨w.heap.size, k, none⟩ (.int .u32 ((t % 4294967296 : Nat) : Int))) := by
  obtain ⟨S, h1, h2, h3, h4, h5, h6⟩ := h
  have hlen : k < S.length := by omega
  refine ⟨⟨_, h1.cell _ _ (map_getElem? hlen)⟩, h1.frozen _, by simp [World.cell?, h5], by simp [World.cell?, h5], h6, fun t ht => ?_⟩
  refine ⟨S.set k (t % 4294967296), ?_, by simpa using h2, h3.set _ _ (Nat.mod_lt _ (by omega)), ?_, ?_, h6.setCell (p := ⟨w.heap.size, k, none⟩) (Nat.le_refl _) _⟩
  · have := h1.set k (u32v (t % 4294967296))
    rwa [← List.map_set] at this
  · unfold V at h4 ⊢
    rw [val_take_succ', val_take_succ', val_take_succ', getD_set_self hlen, List.take_set_of_le (Nat.le_refl _), Nat.pow_succ]
    have h7 := Nat.mod_add_div t 4294967296
    have h8 : 4294967296 ^ k * (t % 4294967296) + t / 4294967296 * (4294967296 ^ k * 4294967296) = 4294967296 ^ k * t := by
      rw [Nat.mul_comm (t / 4294967296), Nat.mul_assoc, ← Nat.mul_add, h7]
    have h9 : 4294967296 ^ k * t = c * 4294967296 ^ k + 4294967296 ^ k * xs.getD k 0 + 4294967296 ^ k * ys.getD k 0 := by
      rw [ht, Nat.mul_add, Nat.mul_add, Nat.mul_comm c]
    omega
  · rw [Below.heap_setCell _ _ _ _ (by simp)]
    exact h5
theorem AddOut.done {w : World} {ax ay : Option Addr} {cx cy : Nat} {xs ys : List Nat} {c : Nat} {wr : World} (h : AddOut w ax ay cx cy xs ys (max xs.length ys.length) c wr) :
    ∃ S : List Nat, S.length = max xs.length ys.length ∧ Lim S ∧ V (S ++ [c]) = V xs + V ys ∧ Row 68 wr w.heap.size (max xs.length ys.length + 1) (S.map u32v) ∧ Below w.heap.size w wr := by
  obtain ⟨S, h1, h2, h3, h4, h5, h6⟩ := h
  refine ⟨S, h2, h3, ?_, h1, h6⟩
  unfold V at h4 ⊢
  rw [val_snoc, h2, Nat.mul_comm]
  rw [List.take_of_length_le (by omega), List.take_of_length_le (by omega), List.take_of_length_le (by omega)] at h4
  exact h4
set_option maxRecDepth 100000 in
set_option maxHeartbeats 1000000 in
theorem add_any (ax ay : Option Addr) (xs ys : List Nat) (cx cy : Nat) (w : World) (hx : Lim xs) (hy : Lim ys) (rx : Reads w ax (xs.map u32v)) (ry : Reads w ay (ys.map u32v))
    (lx : xs.length ≤ 1073741824) (ly : ys.length ≤ 1073741824) :
    Calls Tryz.prog 85 #[.slice ax xs.length cx, .slice ay ys.length cy] w (GivesNew (V xs + V ys) w) := by
  have hm1 := make_run (P := Tryz.prog) Tryz.underlying23 Tryz.info48 (↑xs.length) (↑xs.length + 1) xs.length (xs.length + 1) (by simp) (by simp) (by omega) (by omega) (by unfold maxLen; omega)
  have hm2 := make_run (P := Tryz.prog) Tryz.underlying23 Tryz.info48 (↑ys.length) (↑ys.length + 1) ys.length (ys.length + 1) (by simp) (by simp) (by omega) (by omega) (by unfold maxLen; omega)
  have HS := Lib.hid (AddOut.start w ax ay cx cy xs ys)
  have i0 : ∀ (w : World) (a b : Value), (Instr.index 122 (.agg #[a, b]) (.int .i64 0)).run Tryz.prog w = .ok a w := fun _ _ _ => by kernel_rfl
  have i1 : ∀ (w : World) (a b : Value), (Instr.index 122 (.agg #[a, b]) (.int .i64 1)).run Tryz.prog w = .ok b w := fun _ _ _ => by kernel_rfl
  go_enter Tryz.func85, Tryz.ntmps85
  go_wp2_with fail
  all_goals
    clear hm1 hm2
    go_loopw [8, 25] (fun cv i wr => ∃ k c : Nat, k ≤ max xs.length ys.length ∧ c ≤ 1 ∧ cv = .int .u64 c ∧ i = .int .i64 k ∧ AddOut w ax ay cx cy xs ys k c wr) (fun _ i _ => max xs.length ys.length - (intOf i).toNat)
    case atStart => exact ⟨0, 0, by omega, by omega, rfl, rfl, HS.out _ (by omega)⟩
    case round =>
      obtain ⟨k, c, hk, hc, rfl, rfl, hout⟩ := hrel
      by_cases hlt : k < max xs.length ys.length
      · obtain ⟨⟨q, hq⟩, hf, hp0, hp1, hB, hnext⟩ := hout.step hlt
        have rxr := rx.kept hB
        have ryr := ry.kept hB
        have HN := Lib.hid hnext
        have HB := Lib.hid hB
        clear hnext hB hout
        have hX : xs.getD k 0 < 4294967296 := hx.getD k (by omega)
        have hY : ys.getD k 0 < 4294967296 := hy.getD k (by omega)
        obtain ⟨X, hXe⟩ : ∃ X, X = xs.getD k 0 := ⟨_, rfl⟩
        obtain ⟨Y, hYe⟩ : ∃ Y, Y = ys.getD k 0 := ⟨_, rfl⟩
        rw [← hXe] at hX HN
        rw [← hYe] at hY HN
        have HX := Lib.hid hXe
        have HY := Lib.hid hYe
        clear hXe hYe
        first
          | have hlt' : k < ys.length := by omega
          | have hlt' : k < xs.length := by omega
        clear hlt
        go_wp2
        obtain ⟨wo, rfl⟩ : ∃ wo : World, wo = wr := ⟨_, rfl⟩
        go_loop [8, 29] (fun cv jv => (jv = .int .i64 0 ∧ cv = .int .u64 c) ∨ (jv = .int .i64 1 ∧ cv = .int .u64 (c + X : Nat)) ∨ (jv = .int .i64 2 ∧ cv = .int .u64 (c + X + Y : Nat))) (fun _ jv => 2 - (intOf jv).toNat)
        case atStart => exact .inl ⟨rfl, rfl⟩
        case round =>
          rcases hrel with ⟨rfl, rfl⟩ | ⟨rfl, rfl⟩ | ⟨rfl, rfl⟩
          · by_cases hkx : k < xs.length
            · obtain ⟨g, off, rfl, hg, hcell⟩ := rxr.open' (by rw [List.length_map]; omega)
              have hck := hcell k _ (map_getElem? hkx)
              rw [← HX.out] at hck
              unfold u32v at hck
              clear hcell
              go_wp2
              go_round
              case rel => exact .inr (.inl ⟨rfl, by go_num⟩)
              case measure => simp [intOf]
            · first
                | (exfalso; omega)
                | (
                  have h0 : X = 0 := by rw [HX.out, getD_ge (by omega)]
                  subst h0
                  go_wp2
                  go_round
                  case rel => exact .inr (.inl ⟨rfl, by go_num⟩)
                  case measure => simp [intOf])
          · by_cases hky : k < ys.length
            · obtain ⟨g, off, rfl, hg, hcell⟩ := ryr.open' (by rw [List.length_map]; omega)
              have hck := hcell k _ (map_getElem? hky)
              rw [← HY.out] at hck
              unfold u32v at hck
              clear hcell
              go_wp2
              go_round
              case rel => exact .inr (.inr ⟨rfl, by go_num⟩)
              case measure => simp [intOf]
            · first
                | (exfalso; omega)
                | (
                  have h0 : Y = 0 := by rw [HY.out, getD_ge (by omega)]
                  subst h0
                  go_wp2
                  go_round
                  case rel => exact .inr (.inr ⟨rfl, by go_num⟩)
                  case measure => simp [intOf])
          · go_wp2
            go_roundw
            case rel => exact ⟨k + 1, (c + X + Y) / 4294967296, by omega, by omega, by go_num, by go_num, HN.out _ rfl⟩
            case measure => simp [intOf]; omega
      · obtain rfl : k = max xs.length ys.length := by omega
        obtain ⟨S, hSl, hSd, hSv, hSr, hB⟩ := hout.done
        have HV := Lib.hid hSv
        have HL := Lib.hid hSl
        clear hSv hout hSl hlt
        rcases Nat.lt_or_ge 0 c with hc0 | hc0
        · obtain rfl : c = 1 := by omega
          have hnr : Reads (wr.alloc (.cells #[.int .u32 1] 68)) (some ⟨wr.heap.size, 0, none⟩) [.int .u32 1] := by
            simpa using (Row.new (E := 68) wr #[.int .u32 1]).reads0
          have h1c : ∀ u ∈ [Value.int .u32 1], u.oneCell' = true := by simp [Value.oneCell']
          have hSr1 := hSr.alloc (.cells #[.int .u32 1] 68)
          first
            | have hmx : max xs.length ys.length = ys.length := by omega
            | have hmx : max xs.length ys.length = xs.length := by omega
          rw [hmx] at hSr1
          have HL1 := Lib.hid (HL.out.trans hmx)
          clear hmx
          go_wp2_with (first | (at_builtin; refine wpList_append_row _ rfl (.tmp 54) (.tmp 57) 23 rfl 68 (.int .u32 0) 4 Tryz.underlying23 Tryz.info48 rfl w.heap.size _ _ (S.map u32v) rfl hSr1 (by rw [List.length_map]; exact HL1.out) (by unfold maxLen; omega) (some ⟨wr.heap.size, 0, none⟩) 1 1 [.int .u32 1] rfl rfl hnr h1c (by unfold maxLen; omega) (by omega) ?_; intro g' cap' w' hrow' hcap hgrow hg') | fail)
          have hrd : Reads w' (some ⟨g', 0, none⟩) ((S ++ [1]).map u32v) := by simpa [u32v] using hrow'.reads0
          have hle := hrow'.le
          rw [List.length_append, List.length_map, HL1.out] at hle
          have hB' : Below w.heap.size w w' := (hB.alloc hB.size _).grown hgrow (by have := hB.size; simp; omega) (fun k hk => by cases hk; exact Nat.le_refl _)
          clear hrow' hgrow hnr hSr1 h1c
          refine (trim_at _ _ _ (S ++ [1]) (by rw [List.length_append, HL1.out]; rfl) _ (hSd.append (Dig.cons (by omega) (Dig.nil _))) hrd hle hcap).mono ?_
          rintro e w'' ⟨a, c, rfl, hat, rfl⟩
          rw [HV.out] at hat ⊢
          clear hSd hSr hrd
          go_wp2_with fail
          go_ret
          exact ⟨a, c, rfl, hat, hB'⟩
        · obtain rfl : c = 0 := by omega
          have hSr0 := hSr.reads0
          have hV0 : V S = V xs + V ys := by rw [← HV.out]; unfold V; rw [val_snoc]; simp
          have HV0 := Lib.hid hV0
          clear hV0
          go_wp2_with fail
          refine (trim_at _ _ _ S (by have := HL.out; omega) _ hSd hSr0 (by omega) (by unfold maxLen; omega)).mono ?_
          rintro e w' ⟨a, c, rfl, hat, rfl⟩
          rw [HV0.out] at hat ⊢
          clear hSd hSr hSr0
          go_wp2_with fail
          go_ret
          exact ⟨a, c, rfl, hat, hB⟩
end Go.Proofs.YtpjeecahaeaajaaGreatDoor

set_option linter.unusedVariables false
set_option linter.unusedSimpArgs false
namespace Go.Proofs.YtpjeecahaeaajaaGreatDoor
open Go.RowKit Rep
def MulOut (w : World) (xs ys : List Nat) (k : Nat) (wr : World) : Prop :=
  ∃ Q : List Nat, Row 68 wr w.heap.size (xs.length + ys.length) (Q.map u32v) ∧ Q.length = xs.length + ys.length ∧ Lim Q ∧
    V Q = V (xs.take k) * V ys ∧ (∀ j, k + ys.length ≤ j → Q.getD j 0 = 0) ∧ Below w.heap.size w wr
def MulIn (w : World) (xs ys : List Nat) (k j c : Nat) (wr : World) : Prop :=
  ∃ Q : List Nat, Row 68 wr w.heap.size (xs.length + ys.length) (Q.map u32v) ∧ Q.length = xs.length + ys.length ∧ Lim Q ∧
    V Q + c * 4294967296 ^ (k + j) = V (xs.take k) * V ys + xs.getD k 0 * 4294967296 ^ k * V (ys.take j) ∧ (∀ j, k + ys.length ≤ j → Q.getD j 0 = 0) ∧ Below w.heap.size w wr
theorem MulOut.start (w : World) (xs ys : List Nat) : MulOut w xs ys 0 (w.alloc (.cells (zrow .u32 (xs.length + ys.length)) 68)) :=
  ⟨List.replicate (xs.length + ys.length) 0, by rw [List.map_replicate]; exact Row.zrow .u32 w _, by simp, Dig.replicate _ _ _ (by omega), by
    simp only [List.take_zero, V, Rep.val, val_zeros, Nat.zero_mul], fun j _ => by
    rw [List.getD_eq_getElem?_getD, List.getElem?_replicate]; split <;> rfl, (Below.refl _ _).alloc (Nat.le_refl _) _⟩
theorem MulOut.start' {w : World} {xs ys : List Nat} {k : Nat} {wr : World} (h : MulOut w xs ys k wr) : MulIn w xs ys k 0 0 wr := by
  obtain ⟨Q, h1, h2, h3, h4, h5, h6⟩ := h
  exact ⟨Q, h1, h2, h3, by rw [h4]; simp [V, Rep.val], h5, h6⟩
theorem MulIn.step {w : World} {xs ys : List Nat} {k j c g2 off2 x : Nat} {wr : World} (h : MulIn w xs ys k j c wr) (hk : k < xs.length) (hj : j < ys.length) (hy : Lim ys) (hg2 : g2 < w.heap.size)
    (hck : w.cell? ⟨g2, off2 + j, none⟩ = some (u32v (ys.getD j 0))) (hx : x = xs.getD k 0) (hx1 : x < 4294967296) :
    ∃ y q : Nat, y = ys.getD j 0 ∧ y < 4294967296 ∧ q < 4294967296 ∧ wr.cell? ⟨g2, off2 + j, none⟩ = some (.int .u32 y) ∧ wr.cell? ⟨w.heap.size, k + j, none⟩ = some (.int .u32 q) ∧ wr.frozen? ⟨w.heap.size, k + j, none⟩ = false ∧
      ∀ t : Nat, t = c + (x * y + q) → MulIn w xs ys k (j + 1) (t / 4294967296) (wr.setCell ⟨w.heap.size, k + j, none⟩ (.int .u32 ((t % 4294967296 : Nat) : Int))) := by
  obtain ⟨Q, h1, h2, h3, h4, h5, h6⟩ := h
  have hy1 : ys.getD j 0 < 4294967296 := hy.getD j (by omega)
  have hlen : k + j < Q.length := by omega
  refine ⟨ys.getD j 0, Q.getD (k + j) 0, rfl, hy1, h3.getD _ (by omega), (h6.cell (p := ⟨g2, off2 + j, none⟩) hg2).trans hck, h1.cell _ _ (map_getElem? hlen), h1.frozen _, fun t ht => ?_⟩
  refine ⟨Q.set (k + j) (t % 4294967296), ?_, by simpa using h2, h3.set _ _ (Nat.mod_lt _ (by omega)), ?_, fun i hi => ?_, h6.setCell (p := ⟨w.heap.size, k + j, none⟩) (Nat.le_refl _) _⟩
  · have := h1.set (k + j) (u32v (t % 4294967296))
    rwa [← List.map_set] at this
  · rw [← hx] at h4 ⊢
    have hs := val_set 4294967296 Q (k + j) (t % 4294967296) hlen
    have hm := mul_step ht h4 _ hs
    unfold V at hm ⊢
    rw [show k + (j + 1) = k + j + 1 from rfl, Nat.pow_succ, hm, val_take_succ _ _ _ hj, Nat.mul_add, Nat.add_assoc]
    congr 2
    rw [Nat.pow_add]
    ac_rfl
  · rw [Rep.getD_set_ne (by omega)]
    exact h5 i hi
theorem MulIn.done {w : World} {xs ys : List Nat} {k c : Nat} {wr : World} (h : MulIn w xs ys k ys.length c wr) (hk : k < xs.length) (hc : c < 4294967296) :
    (∃ q : Nat, wr.cell? ⟨w.heap.size, k + ys.length, none⟩ = some (.int .u32 q)) ∧ wr.frozen? ⟨w.heap.size, k + ys.length, none⟩ = false ∧
      MulOut w xs ys (k + 1) (wr.setCell ⟨w.heap.size, k + ys.length, none⟩ (.int .u32 (c : Int))) := by
  obtain ⟨Q, h1, h2, h3, h4, h5, h6⟩ := h
  have hlen : k + ys.length < Q.length := by omega
  refine ⟨⟨_, h1.cell _ _ (map_getElem? hlen)⟩, h1.frozen _, Q.set (k + ys.length) c, ?_, by simpa using h2, h3.set _ _ hc, ?_, fun i hi => ?_, h6.setCell (p := ⟨w.heap.size, k + ys.length, none⟩) (Nat.le_refl _) _⟩
  · have := h1.set (k + ys.length) (u32v c)
    rwa [← List.map_set] at this
  · have hs := val_set 4294967296 Q (k + ys.length) c hlen
    rw [h5 _ (Nat.le_refl _), Nat.mul_zero, Nat.add_zero] at hs
    unfold V at h4 ⊢
    rw [hs, Nat.mul_comm, h4, List.take_length, val_take_succ _ _ _ hk, Nat.add_mul, Nat.mul_comm (xs.getD k 0)]
  · rw [Rep.getD_set_ne (by omega)]
    exact h5 i (by omega)
theorem MulOut.done {w : World} {xs ys : List Nat} {wr : World} (h : MulOut w xs ys xs.length wr) :
    ∃ Q : List Nat, Q.length = xs.length + ys.length ∧ Lim Q ∧ V Q = V xs * V ys ∧ Reads wr (some ⟨w.heap.size, 0, none⟩) (Q.map u32v) ∧ Below w.heap.size w wr := by
  obtain ⟨Q, h1, h2, h3, h4, h5, h6⟩ := h
  exact ⟨Q, h2, h3, by rw [h4, List.take_length], h1.reads0, h6⟩
set_option maxHeartbeats 400000 in
theorem multiply_any (ax ay : Option Addr) (xs ys : List Nat) (cx cy : Nat) (w : World) (hx : Lim xs) (hy : Lim ys) (rx : Reads w ax (xs.map u32v)) (ry : Reads w ay (ys.map u32v))
    (lx : xs.length ≤ 1073741824) (ly : ys.length ≤ 1073741824) :
    Calls Tryz.prog 82 #[.slice ax xs.length cx, .slice ay ys.length cy] w (GivesNew (V xs * V ys) w) := by
  have hmk := make_run (P := Tryz.prog) Tryz.underlying23 Tryz.info48 (↑xs.length + ↑ys.length) (↑xs.length + ↑ys.length) (xs.length + ys.length) (xs.length + ys.length) (by simp) (by simp) (Nat.le_refl _) (by omega) (by unfold maxLen; omega)
  have HS := Lib.hid (MulOut.start w xs ys)
  go_enter Tryz.func82, Tryz.ntmps82
  go_wp2
  clear hmk
  go_loopw [20] (fun i wr => ∃ k : Nat, k ≤ xs.length ∧ i = .int .i64 k ∧ MulOut w xs ys k wr) (fun i _ => xs.length - (intOf i).toNat)
  case atStart => exact ⟨0, Nat.zero_le _, rfl, HS.out⟩
  case round =>
    obtain ⟨k, hk, rfl, hout⟩ := hrel
    by_cases hlt : k < xs.length
    · have hB0 : Below w.heap.size w wr := by obtain ⟨Q, hrow, hQl, hQd, hQv, hQz, hB⟩ := hout; exact hB
      obtain ⟨g, off, rfl, hg, hcell⟩ := rx.open' (by rw [List.length_map]; omega)
      have hck := hcell k _ (map_getElem? (by omega))
      have hck' := (hB0.cell (p := ⟨g, off + k, none⟩) hg).trans hck
      clear hcell hck hB0
      unfold u32v at hck'
      have hxk : xs.getD k 0 < 4294967296 := hx.getD k (by omega)
      have HI : MulIn w xs ys k 0 0 wr := hout.start'
      clear hout
      have HX : ∃ x, x = xs.getD k 0 := ⟨_, rfl⟩
      obtain ⟨x, hxe⟩ := HX
      rw [← hxe] at hck' hxk
      have HX := Lib.hid hxe
      clear hxe
      go_wp2
      clear hck' rx
      obtain ⟨wo, rfl⟩ : ∃ wo : World, wo = wr := ⟨_, rfl⟩
      go_loopw [9, 35] (fun cv jv wr => ∃ j c : Nat, j ≤ ys.length ∧ c < 4294967296 ∧ cv = .int .u64 c ∧ jv = .int .i64 j ∧ MulIn w xs ys k j c wr) (fun _ jv _ => ys.length - (intOf jv).toNat)
      case atStart => exact ⟨0, 0, Nat.zero_le _, by omega, rfl, rfl, HI⟩
      case round =>
        obtain ⟨j, c, hj, hc, rfl, rfl, hin⟩ := hrel
        by_cases hjl : j < ys.length
        · obtain ⟨g2, off2, rfl, hg2, hcell⟩ := ry.open' (by rw [List.length_map]; omega)
          have hck := hcell j _ (map_getElem? (by omega))
          clear hcell
          obtain ⟨y, q, hye, hy1, hq1, hcy, hcq, hfq, hnext⟩ := hin.step hlt hjl hy hg2 hck HX.out hxk
          have hxy : x * y ≤ 4294967295 * 4294967295 := Nat.mul_le_mul (by omega) (by omega)
          have hxy0 : (0 : Int) ≤ (x : Int) * (y : Int) := by rw [← Int.natCast_mul]; omega
          have hxy1 : (x : Int) * (y : Int) ≤ 18446744065119617025 := by rw [← Int.natCast_mul]; omega
          have HN := Lib.hid hnext
          clear hnext hck hye hxy hin
          go_wp2
          go_roundw
          case rel => exact ⟨j + 1, (c + (x * y + q)) / 4294967296, by omega, by omega, by go_num, by go_num, HN.out _ rfl⟩
          case measure => simp [intOf]; omega
        · obtain rfl : j = ys.length := by omega
          obtain ⟨⟨q, hcq⟩, hfq, hdone⟩ := hin.done hlt hc
          have HD := Lib.hid hdone
          clear hdone hin
          go_wp2
          go_roundw
          case rel => exact ⟨k + 1, by omega, by go_num, HD.out⟩
          case measure => simp [intOf]; omega
    · obtain rfl : k = xs.length := by omega
      obtain ⟨Q, hQl, hQd, hQv, hQr, hB⟩ := hout.done
      have HQ := Lib.hid hQl
      have HV := Lib.hid hQv
      clear hQl hQv
      go_wp2_with fail
      refine (trim_at _ _ _ Q HQ.out _ hQd hQr (Nat.le_refl _) (by unfold maxLen; omega)).mono ?_
      rintro e w' ⟨a, c, rfl, hat, rfl⟩
      rw [HV.out] at hat ⊢
      clear hQd hQr hout
      go_wp2_with fail
      go_ret
      exact ⟨a, c, rfl, hat, hB⟩
end Go.Proofs.YtpjeecahaeaajaaGreatDoor

set_option linter.unusedVariables false
set_option linter.unusedSimpArgs false
namespace Go.Proofs.YtpjeecahaeaajaaGreatDoor
open Go.RowKit Rep
theorem sub_step {x b y : Nat} (hx : x < 4294967296) (hb : b ≤ 1) (hy : y < 4294967296) :
    ∃ z1 z : Nat, IntKind.u64.wrap ((x : Int) - (b : Int)) = (z1 : Int) ∧ IntKind.u64.wrap ((z1 : Int) - (y : Int)) = (z : Int) ∧ z1 < 18446744073709551616 ∧ z < 18446744073709551616 ∧
      z % 4294967296 + b + y = x + z / 9223372036854775808 * 4294967296 ∧ z / 9223372036854775808 ≤ 1 ∧ (y = 0 → z = z1) := by
  refine ⟨(x + 18446744073709551616 - b) % 18446744073709551616, ((x + 18446744073709551616 - b) % 18446744073709551616 + 18446744073709551616 - y) % 18446744073709551616, ?_, ?_, by omega, by omega, ?_, by omega, by omega⟩
  · simp [IntKind.wrap, IntKind.bits, IntKind.signed]; omega
  · simp [IntKind.wrap, IntKind.bits, IntKind.signed]; omega
  · omega
def TakeIn (w : World) (g cap : Nat) (xs ys : List Nat) (k b : Nat) (wr : World) : Prop :=
  ∃ Q : List Nat, Row 68 wr g cap (Q.map u32v) ∧ Q.length = xs.length ∧ Lim Q ∧ V Q + V (ys.take k) = V xs + b * 4294967296 ^ k ∧ w.grownBy wr (some g)
theorem TakeIn.step {w : World} {g cap : Nat} {xs ys : List Nat} {k b : Nat} {wr : World} (h : TakeIn w g cap xs ys k b wr) (hk : k < xs.length) :
    ∃ x : Nat, x < 4294967296 ∧ wr.cell? ⟨g, k, none⟩ = some (.int .u32 x) ∧ wr.frozen? ⟨g, k, none⟩ = false ∧ w.grownBy wr (some g) ∧
      ∀ z b' : Nat, z < 4294967296 → z + b + ys.getD k 0 = x + b' * 4294967296 → TakeIn w g cap xs ys (k + 1) b' (wr.setCell ⟨g, k, none⟩ (.int .u32 (z : Int))) := by
  obtain ⟨Q, h1, h2, h3, h4, h5⟩ := h
  have hlen : k < Q.length := by omega
  refine ⟨Q.getD k 0, h3.getD _ (by omega), h1.cell _ _ (map_getElem? hlen), h1.frozen _, h5, fun z b' hz he => ?_⟩
  refine ⟨Q.set k z, ?_, by simpa using h2, h3.set _ _ hz, ?_, ⟨h5.os, h5.tape, h5.output, by have := h5.size; simpa [World.setCell] using this, fun j hj hne => ?_⟩⟩
  · have := h1.set k (u32v z)
    rwa [← List.map_set] at this
  · unfold V at h4 ⊢
    have hs := val_set 4294967296 Q k z hlen
    rw [val_take_succ', Nat.pow_succ]
    have h7 : 4294967296 ^ k * (z + b + ys.getD k 0) = 4294967296 ^ k * (Q.getD k 0 + b' * 4294967296) := by rw [he]
    simp only [Nat.mul_add] at h7
    have h8 : b' * (4294967296 ^ k * 4294967296) = 4294967296 ^ k * (b' * 4294967296) := by ac_rfl
    have h9 : b * 4294967296 ^ k = 4294967296 ^ k * b := Nat.mul_comm _ _
    omega
  · rw [Below.heap_setCell _ _ _ _ (by simpa using hne)]
    exact h5.block j hj hne
theorem TakeIn.done {w : World} {g cap : Nat} {xs ys : List Nat} {k : Nat} {wr : World} (h : TakeIn w g cap xs ys k 0 wr) (hk : ys.length ≤ k) :
    ∃ Q : List Nat, Row 68 wr g cap (Q.map u32v) ∧ Q.length = xs.length ∧ Lim Q ∧ V Q = V xs - V ys ∧ w.grownBy wr (some g) := by
  obtain ⟨Q, h1, h2, h3, h4, h5⟩ := h
  rw [List.take_of_length_le hk] at h4
  exact ⟨Q, h1, h2, h3, by omega, h5⟩
theorem TakeIn.end' {w : World} {g cap : Nat} {xs ys : List Nat} {b : Nat} {wr : World} (h : TakeIn w g cap xs ys xs.length b wr) (hy : ys.length ≤ xs.length) (hv : V ys ≤ V xs) (hb : b ≤ 1) : TakeIn w g cap xs ys xs.length 0 wr := by
  obtain ⟨Q, h1, h2, h3, h4, h5⟩ := h
  have hl := val_lt h3
  rw [h2] at hl
  rw [List.take_of_length_le hy] at h4
  rcases Nat.lt_or_ge 0 b with hb0 | hb0
  · obtain rfl : b = 1 := by omega
    unfold V at *
    omega
  · obtain rfl : b = 0 := by omega
    exact ⟨Q, h1, h2, h3, by rw [List.take_of_length_le hy]; exact h4, h5⟩
theorem take_end {w : World} {B g cap : Nat} {xs ys : List Nat} {k : Nat} {wr : World} (h : TakeIn w g cap xs ys k 0 wr) (hk : ys.length ≤ k) (hg : B ≤ g) (hm : cap ≤ maxLen) :
    Calls Tryz.prog 71 #[.slice (some ⟨g, 0, none⟩) xs.length cap] wr (GivesTake B (some ⟨g, 0, none⟩) (V xs - V ys) w) := by
  obtain ⟨Q, hQr, hQl, hQd, hQv, hQg⟩ := h.done hk
  refine (trim_own B _ _ cap Q hQl wr hQd ⟨hm, .inr ⟨g, rfl, hg, hQr⟩⟩).mono ?_
  rintro e w' ⟨a', c', rfl, ho, ha, rfl⟩
  rw [hQv] at ho ⊢
  exact ⟨a', c', rfl, ho, ha, hQg⟩
set_option maxRecDepth 100000 in
set_option maxHeartbeats 1000000 in
theorem takeOff_some (B g : Nat) (xs ys : List Nat) (cx cy : Nat) (ay : Option Addr) (w : World) (hx : Lim xs) (hy : Lim ys) (hg : B ≤ g) (hcx : cx ≤ maxLen) (hrow : Row 68 w g cx (xs.map u32v)) (ry : Reads w ay (ys.map u32v))
    (hne : ys.map u32v = [] ∨ ∀ g' off, ay = some ⟨g', off, none⟩ → some g' ≠ some g) (lx : xs.length ≤ 1073741824) (ly : ys.length ≤ xs.length) (hle : V ys ≤ V xs) :
    Calls Tryz.prog 93 #[.slice (some ⟨g, 0, none⟩) xs.length cx, .slice ay ys.length cy] w (GivesTake B (some ⟨g, 0, none⟩) (V xs - V ys) w) := by
  have hlc := hrow.le
  rw [List.length_map] at hlc
  have HS : TakeIn w g cx xs ys 0 0 w := ⟨xs, hrow, rfl, hx, by simp [V, Rep.val], ⟨rfl, rfl, rfl, Nat.le_refl _, fun _ _ _ => rfl⟩⟩
  clear hrow
  go_enter Tryz.func93, Tryz.ntmps93
  go_wp2_with fail
  go_loopw [5, 10] (fun bv i wr => ∃ k b : Nat, k ≤ xs.length ∧ b ≤ 1 ∧ bv = .int .u64 b ∧ i = .int .i64 k ∧ TakeIn w g cx xs ys k b wr) (fun _ i _ => xs.length - (intOf i).toNat)
  case atStart => exact ⟨0, 0, by omega, by omega, rfl, rfl, HS⟩
  case round =>
    obtain ⟨k, b, hk, hb, rfl, rfl, hin⟩ := hrel
    clear HS
    by_cases hlt : k < xs.length
    · by_cases hst : ys.length ≤ k ∧ b = 0
      · obtain ⟨hyk, rfl⟩ := hst
        have hfin := take_end hin hyk hg hcx
        clear hin
        go_wp2_with fail
        refine hfin.mono ?_
        rintro e w' hgt
        obtain ⟨a', c', rfl, hgt'⟩ := hgt
        go_wp2_with fail
        go_ret
        exact ⟨a', c', rfl, hgt'⟩
      · obtain ⟨x, hx1, hcx1, hfx, hgr, hnext⟩ := hin.step hlt
        have hY : ys.getD k 0 < 4294967296 := hy.getD k (by omega)
        have HG : Hid (k < ys.length → ys[k]? = some (ys.getD k 0)) := fun h => by rw [List.getElem?_eq_getElem h, getD_lt h]
        have HZ0 : Hid (ys.length ≤ k → ys.getD k 0 = 0) := fun h => getD_ge h
        generalize ys.getD k 0 = y at hnext hY HG HZ0
        obtain ⟨z1, z, hz1, hz, hz1b, hzb, hze, hzc, hz0⟩ := sub_step hx1 hb hY
        have HN := Lib.hid (hnext (z % 4294967296) (z / 9223372036854775808) (by omega) hze)
        have hryr := ry.grown hgr hne
        clear hnext hin hgr hze
        by_cases hyk : k < ys.length
        · obtain ⟨g2, off, rfl, hg2, hcell⟩ := hryr.open' (by rw [List.length_map]; omega)
          have hck := hcell k (u32v y) (by rw [List.getElem?_map, HG.out hyk]; rfl)
          clear hcell hz0
          unfold u32v at hck
          have hst' : decide (ys.length ≤ k) = false := decide_eq_false (by omega)
          go_wp2_with fail
          go_roundw
          case rel => exact ⟨k + 1, z / 9223372036854775808, by omega, hzc, by go_num, by go_num, HN.out⟩
          case measure => simp [intOf]; omega
        · have hst' : decide (ys.length ≤ k) = true := decide_eq_true (by omega)
          have hb1 : b = 1 := by omega
          subst hb1
          obtain rfl : z = z1 := hz0 (HZ0.out (by omega))
          clear hz hz0 hst
          rw [show ((1 : Nat) : Int) = 1 from rfl] at hz1
          go_wp2_with fail
          go_roundw
          case rel => exact ⟨k + 1, z / 9223372036854775808, by omega, hzc, by go_num, by go_num, HN.out⟩
          case measure => simp [intOf]; omega
    · obtain rfl : k = xs.length := by omega
      have hfin := take_end (hin.end' ly hle hb) ly hg hcx
      clear hin
      go_wp2_with fail
      refine hfin.mono ?_
      rintro e w' hgt
      obtain ⟨a', c', rfl, hgt'⟩ := hgt
      go_wp2_with fail
      go_ret
      exact ⟨a', c', rfl, hgt'⟩
end Go.Proofs.YtpjeecahaeaajaaGreatDoor
