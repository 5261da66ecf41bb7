/-
  Layer 8: the walk's state: the way, and the map.
-/
import Derived.Test.YtgojipnhnmigpaaSxPl
import Derived.Test.YtgojipnhnmigpaaSxB
set_option linter.unusedVariables false
set_option linter.unusedSimpArgs false
namespace Go.Proofs.Ytgojipnhnmigpaa
open Go.RowKit Sx

/-- A step of the way. -/
structure Sp where
  v : Value
  k : Fo
  i : Nat
  d : Nat
def sp3 (v : Value) (i d : Nat) : List Value := [v, .int .i64 (i : Int), .int .i64 (d : Int)]
def spC : List Sp → List Value
  | [] => []
  | s :: r => spC r ++ sp3 s.v s.i s.d
theorem spC_len : ∀ l : List Sp, (spC l).length = l.length * 3
  | [] => rfl
  | s :: r => by rw [spC, List.length_append, spC_len r, List.length_cons]; simp [sp3]; omega
/-- Memory that stays. -/
def Old (B R m j : Nat) : Prop := j < B ∧ j ≠ R ∧ j ≠ m
/-- The walk's own memory. -/
def Own8 (B R m j : Nat) : Prop := j = R ∨ j = m ∨ B ≤ j
theorem old_own {B R m j : Nat} (h : Old B R m j) : ¬ Own8 B R m j := by
  rintro (e | e | e)
  · exact h.2.1 e
  · exact h.2.2 e
  · have := h.1; omega
/-- A walk: block R; its map: block m; its way pv; all else that it makes is from B on. -/
structure WSt (B R m : Nat) (W : World) (path : List Sp) (pv : Value) (M : List ((Nat × Nat) × Int)) : Prop where
  head : W.heap[R]? = some (.cells #[pv, .map (some m)] 72 (0, 0))
  row : W.ownsRow B 76 3 pv path.length (spC path)
  map : PMap W m M
  kids : ∀ s ∈ path, SlAt W (Old B R m) s.v s.k
  size : B ≤ W.heap.size
  ne : R ≠ m ∧ R < B ∧ m < B
  old : ∀ e ∈ M, Old B R m e.1.1
section
variable {B R m : Nat} {W W' : World} {path : List Sp} {pv : Value} {M : List ((Nat × Nat) × Int)}
theorem WSt.kept (h : WSt B R m W path pv M) (hb : Below W.heap.size W W') : WSt B R m W' path pv M := by
  have hc : Chg (fun _ => False) W W' := .of_below hb
  have hR := (Array.getElem?_eq_some_iff.1 h.head).1
  exact ⟨(hb.block R hR).trans h.head, ownsRow_turn h.row hc (fun _ _ h => h), h.map.turn hc (fun h => h) (fun _ _ _ h => h), fun s hs => (h.kids s hs).kept hb, Nat.le_trans h.size hb.size, h.ne, h.old⟩
theorem WSt.cells (h : WSt B R m W path pv M) : W.cell? ⟨R, 0, none⟩ = some pv ∧ W.cell? ⟨R, 1, none⟩ = some (.map (some m)) ∧ ∀ i, W.frozen? ⟨R, i, none⟩ = false := by
  have := h.head
  simp [World.cell?, World.frozen?, this]
theorem WSt.Rlt (h : WSt B R m W path pv M) : R < W.heap.size := Nat.lt_of_lt_of_le h.ne.2.1 h.size
theorem WSt.value (h : WSt B R m W path pv M) {n : Nat} (hn : path.length = n + 1) : ∃ g c, pv = .slice (some ⟨g, 0, none⟩) (n + 1) c ∧ B ≤ g ∧ g < W.heap.size ∧ n + 1 ≤ c := by
  have hr := h.row
  rw [hn] at hr
  obtain ⟨g, c, rfl⟩ := ownsRow_form' hr
  have hl := World.ownsRow.lt hr g rfl
  refine ⟨g, c, rfl, hl.1, hl.2, ?_⟩
  obtain ⟨_, ⟨_, e⟩ | ⟨g', cap, cur, e, _, _, hnc, _⟩⟩ := hr
  · omega
  · cases e
    omega
/-- What stays where only the way and the map have changed. -/
theorem WSt.turn (h : WSt B R m W path pv M) (hc : Chg (Own8 B R m) W W') {path' : List Sp} {pv' : Value} {M' : List ((Nat × Nat) × Int)} (h1 : W'.heap[R]? = some (.cells #[pv', .map (some m)] 72 (0, 0)))
    (h2 : W'.ownsRow B 76 3 pv' path'.length (spC path')) (h3 : PMap W' m M') (h4 : ∀ s ∈ path', SlAt W (Old B R m) s.v s.k) (h5 : ∀ e ∈ M', Old B R m e.1.1) : WSt B R m W' path' pv' M' :=
  ⟨h1, h2, h3, fun s hs => (h4 s hs).turn hc (fun _ h _ => old_own h) (fun _ h _ => h), Nat.le_trans h.size hc.size, h.ne, h5⟩
/-- The map stays where it isn't touched. -/
theorem WSt.map_turn (h : WSt B R m W path pv M) {S : Nat → Prop} (hc : Chg S W W') (hm : ¬ S m) (hS : ∀ g, Old B R m g → ¬ S g) : PMap W' m M :=
  h.map.turn hc hm fun g _ ⟨d, n, he⟩ => hS g (h.old _ he)
/-- The last step's cells. -/
theorem WSt.last {s : Sp} {path : List Sp} {g n c : Nat} (h : WSt B R m W (s :: path) (.slice (some ⟨g, 0, none⟩) (n + 1) c) M) (hn : path.length = n) :
    W.rangeAt g (n * 3) (sp3 s.v s.i s.d) ∧ ∀ i, W.frozen? ⟨g, i, none⟩ = false := by
  have hr := h.row
  rw [List.length_cons, hn] at hr
  have hl := spC_len path
  rw [hn] at hl
  refine ⟨fun j u hu => ?_, fun i => hr.frozenAt i⟩
  have hj := (List.getElem?_eq_some_iff.1 hu).1
  simp only [sp3, List.length_cons, List.length_nil] at hj
  rw [hr.cellAt _ (by omega), spC, List.getElem?_append_right (by omega), hl, Nat.add_sub_cancel_left]
  exact hu
/-- Two cells of the last step are turned. -/
theorem WSt.putEnd {s : Sp} {path : List Sp} {g n c : Nat} (h : WSt B R m W (s :: path) (.slice (some ⟨g, 0, none⟩) (n + 1) c) M) (hn : path.length = n) (hg : B ≤ g) (i d : Nat) :
    WSt B R m ((W.setCell ⟨g, n * 3 + 2, none⟩ (.int .i64 (d : Int))).setCell ⟨g, n * 3 + 1, none⟩ (.int .i64 (i : Int))) (⟨s.v, s.k, i, d⟩ :: path) (.slice (some ⟨g, 0, none⟩) (n + 1) c) M ∧
    Chg (Own8 B R m) W ((W.setCell ⟨g, n * 3 + 2, none⟩ (.int .i64 (d : Int))).setCell ⟨g, n * 3 + 1, none⟩ (.int .i64 (i : Int))) := by
  have hr := h.row
  rw [List.length_cons, hn] at hr
  have hl := spC_len path
  rw [hn] at hl
  have c1 : Chg (fun j => j = g) W (W.setCell ⟨g, n * 3 + 2, none⟩ (.int .i64 (d : Int))) := chg_setCell (S := fun j => j = g) rfl _ _ _
  have c2 : Chg (fun j => j = g) (W.setCell ⟨g, n * 3 + 2, none⟩ (.int .i64 (d : Int))) ((W.setCell ⟨g, n * 3 + 2, none⟩ (.int .i64 (d : Int))).setCell ⟨g, n * 3 + 1, none⟩ (.int .i64 (i : Int))) := chg_setCell (S := fun j => j = g) rfl _ _ _
  have cc := c1.step c2
  have cO : Chg (Own8 B R m) W ((W.setCell ⟨g, n * 3 + 2, none⟩ (.int .i64 (d : Int))).setCell ⟨g, n * 3 + 1, none⟩ (.int .i64 (i : Int))) := cc.mono (fun k _ hk => by rw [hk]; exact .inr (.inr hg))
  have h1 := (hr.stored (n * 3 + 2) (.int .i64 (d : Int))).1
  have h2 := (h1.stored (n * 3 + 1) (.int .i64 (i : Int))).1
  have hcs : ((spC (s :: path)).set (n * 3 + 2) (.int .i64 (d : Int))).set (n * 3 + 1) (.int .i64 (i : Int)) = spC (⟨s.v, s.k, i, d⟩ :: path) := by
    rw [spC, spC, List.set_append_right _ _ (by omega), hl, Nat.add_sub_cancel_left, List.set_append_right _ _ (by omega), hl, Nat.add_sub_cancel_left]
    rfl
  rw [hcs] at h2
  have hRg : R ≠ g := by have := h.ne.2.1; omega
  have hmg : m ≠ g := by have := h.ne.2.2; omega
  refine ⟨h.turn cO ?_ (by rw [List.length_cons, hn]; exact h2) (h.map_turn cc hmg (fun j hj e => by have := hj.1; omega)) (fun s' hs' => ?_) h.old, cO⟩
  · exact (cc.block R h.Rlt hRg).trans h.head
  · rcases List.mem_cons.1 hs' with rfl | hs'
    · exact h.kids s (by simp)
    · exact h.kids s' (by simp [hs'])
/-- A step more. -/
theorem WSt.pushEnd {g c : Nat} {v : Value} {k : Fo} {W2 W3 : World} (h : WSt B R m W path pv M) (hs : SlAt W (Old B R m) v k) (hg : W.grownBy W2 pv.ownBlock)
    (hown : W2.ownsRow B 76 3 (.slice (some ⟨g, 0, none⟩) (path.length + 1) c) (path.length + 1) (spC path ++ sp3 v 0 0)) (h3 : W3 = W2.setCell ⟨R, 0, none⟩ (.slice (some ⟨g, 0, none⟩) (path.length + 1) c)) :
    WSt B R m W3 (⟨v, k, 0, 0⟩ :: path) (.slice (some ⟨g, 0, none⟩) (path.length + 1) c) M ∧ Chg (Own8 B R m) W W3 := by
  subst h3
  have hob : ∀ j, pv.ownBlock = some j → B ≤ j := fun j hj => (World.ownsRow.lt h.row j hj).1
  have hRp : pv.ownBlock ≠ some R := fun e => by have := hob R e; have := h.ne.2.1; omega
  have hmp : pv.ownBlock ≠ some m := fun e => by have := hob m e; have := h.ne.2.2; omega
  have c1 : Chg (fun j => pv.ownBlock = some j) W W2 := .of_grown hg (fun k hk => hk)
  have c2 : Chg (fun j => j = R) W2 (W2.setCell ⟨R, 0, none⟩ (.slice (some ⟨g, 0, none⟩) (path.length + 1) c)) := chg_setCell (S := fun j => j = R) rfl _ _ _
  have cO : Chg (Own8 B R m) W (W2.setCell ⟨R, 0, none⟩ (.slice (some ⟨g, 0, none⟩) (path.length + 1) c)) := (c1.mono (S' := Own8 B R m) (fun k _ hk => .inr (.inr (hob k hk)))).step (c2.mono (fun k _ hk => .inl hk))
  have hgl := World.ownsRow.lt hown g rfl
  have hgR : g ≠ R := by have := h.ne.2.1; omega
  have hh2 := (c1.block R h.Rlt hRp).trans h.head
  have hm1 := h.map_turn c1 hmp (fun j hj e => by have := hob j e; have := hj.1; omega)
  refine ⟨h.turn cO ?_ ?_ ?_ (fun s hs' => ?_) h.old, cO⟩
  · rw [heap_setCell_same W2 R 0 _ _ _ hh2]
    rfl
  · exact ownsRow_turn hown c2 (fun k hk e => by cases hk; exact hgR e)
  · exact hm1.turn c2 (fun e => h.ne.1 e.symm) (fun j _ ⟨d, n, he⟩ e => (h.old _ he).2.1 e)
  · rcases List.mem_cons.1 hs' with rfl | hs'
    · exact hs
    · exact h.kids s hs'
/-- A step less. -/
theorem WSt.popEnd {s : Sp} {path : List Sp} {g n c : Nat} (h : WSt B R m W (s :: path) (.slice (some ⟨g, 0, none⟩) (n + 1) c) M) (hn : path.length = n) :
    WSt B R m (W.setCell ⟨R, 0, none⟩ (.slice (some ⟨g, 0, none⟩) n c)) path (.slice (some ⟨g, 0, none⟩) n c) M ∧ Chg (Own8 B R m) W (W.setCell ⟨R, 0, none⟩ (.slice (some ⟨g, 0, none⟩) n c)) := by
  have hr := h.row
  rw [List.length_cons, hn] at hr
  have hl := spC_len path
  rw [hn] at hl
  have hgl := World.ownsRow.lt hr g rfl
  have hgR : g ≠ R := by have := h.ne.2.1; omega
  have c2 : Chg (fun j => j = R) W (W.setCell ⟨R, 0, none⟩ (.slice (some ⟨g, 0, none⟩) n c)) := chg_setCell (S := fun j => j = R) rfl _ _ _
  have cO : Chg (Own8 B R m) W (W.setCell ⟨R, 0, none⟩ (.slice (some ⟨g, 0, none⟩) n c)) := c2.mono (fun k _ hk => .inl hk)
  refine ⟨h.turn cO ?_ ?_ ?_ (fun s hs' => h.kids s (by simp [hs'])) h.old, cO⟩
  · rw [heap_setCell_same W R 0 _ _ _ h.head]
    rfl
  · rw [hn]
    have := ownsRow_pop (last := sp3 s.v s.i s.d) hl (by simpa [spC] using hr)
    exact ownsRow_turn this c2 (fun k hk e => by cases hk; exact hgR e)
  · exact h.map.turn c2 (fun e => h.ne.1 e.symm) (fun j _ ⟨d, n, he⟩ e => (h.old _ he).2.1 e)
/-- Another map. -/
theorem WSt.mapEnd {M' : List ((Nat × Nat) × Int)} (h : WSt B R m W path pv M) (hc : Chg (fun j => j = m) W W') (hm : PMap W' m M') (ho : ∀ e ∈ M', Old B R m e.1.1) : WSt B R m W' path pv M' ∧ Chg (Own8 B R m) W W' := by
  have cO : Chg (Own8 B R m) W W' := hc.mono (fun k _ hk => .inr (.inl hk))
  exact ⟨h.turn cO ((hc.block R h.Rlt h.ne.1).trans h.head) (ownsRow_turn h.row hc (fun k hk e => by have := (World.ownsRow.lt h.row k hk).1; have := h.ne.2.2; omega)) hm h.kids ho, cO⟩
end
end Go.Proofs.Ytgojipnhnmigpaa
