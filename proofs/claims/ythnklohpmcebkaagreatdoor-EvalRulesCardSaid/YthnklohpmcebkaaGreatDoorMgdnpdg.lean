/- By program out of: EvMem, EvOwn, EvCmp, EvVals. -/
import Derived.Test.YthnklohpmcebkaaGreatDoorMpjihga
import Derived.Test.YthnklohpmcebkaaGreatDoorMkeimog
import Derived.Test.YthnklohpmcebkaaGreatDoorMmepeog
set_option linter.unusedVariables false
set_option linter.unusedSimpArgs false
namespace Go.Proofs.YthnklohpmcebkaaGreatDoor
open Go.RowKit Tm Rep Ev
theorem tag_ne10 {w : World} {a b : Nat} {c c' : Array Value} {t t' : TypeId} {m m' : Nat × Nat} (h : w.heap[a]? = some (.cells c t m)) (h' : w.heap[b]? = some (.cells c' t' m')) (ht : t ≠ t') : a ≠ b := by
  rintro rfl
  rw [h] at h'
  cases h'
  exact ht rfl
theorem KAt.some10 {w : World} {a : Option Addr} {kids : List Int} {c : Nat} (h : KAt w a kids c) (hn : kids ≠ []) : ∃ b off, a = some ⟨b, off, none⟩ := by
  rcases h.at_ with e | ⟨b, off, e, _⟩
  · exact absurd e hn
  · exact ⟨b, off, e⟩
structure RV where
  t : Bool
  s : Bool
  z1 : Option Addr
  m1 : Nat
  k1 : Nat
  z2 : Option Addr
  m2 : Nat
  k2 : Nat
def RV.raw (d : RV) : RawR := (d.s, (d.z1, d.m1, d.k1), (d.z2, d.m2, d.k2))
def RV.rat (d : RV) : List Value := [.bool d.s, .slice d.z1 d.m1 d.k1, .slice d.z2 d.m2 d.k2]
def RV.cells (d : RV) : List Value := [.bool d.t, .bool d.s, .slice d.z1 d.m1 d.k1, .slice d.z2 d.m2 d.k2]
structure RV.ok (d : RV) (v : Vl) (W : World) : Prop where
  t : d.t = v.1
  q : VQ v.2 d.raw W
theorem VQ.kept10 {q : Rat} {v : RawR} {W W' : World} (h : VQ q v W) (hb : Below W.heap.size W W') : VQ q v W' := ⟨h.e0, h.e1, h.e2, h.lies.kept hb⟩
theorem RV.ok.kept {d : RV} {v : Vl} {W W' : World} (h : d.ok v W) (hb : Below W.heap.size W W') : d.ok v W' := ⟨h.t, h.q.kept10 hb⟩
def GoodE (u : Value) : Prop := (∃ b, u = .bool b) ∨ ∃ a l c, u = .slice a l c
structure OwnE (w : World) (g cap n : Nat) (xs : List Value) : Prop where
  row : ∃ cur, w.heap[g]? = some (.cells cur 52 (0, 0)) ∧ cur.size = cap * 4 ∧ cur.toList.take (n * 4) = xs ∧ ∀ u ∈ cur.toList, GoodE u
  len : xs.length = n * 4
  le : n ≤ cap
theorem OwnE.of_block {w w' : World} {g cap n : Nat} {xs : List Value} (h : OwnE w g cap n xs) (hb : w'.heap[g]? = w.heap[g]?) : OwnE w' g cap n xs := by
  obtain ⟨⟨cur, h1, h2⟩, h3, h4⟩ := h
  exact ⟨⟨cur, hb.trans h1, h2⟩, h3, h4⟩
theorem OwnE.lt {w : World} {g cap n : Nat} {xs : List Value} (h : OwnE w g cap n xs) : g < w.heap.size := by
  obtain ⟨⟨cur, h1, _⟩, _⟩ := h
  exact (Array.getElem?_eq_some_iff.1 h1).1
theorem OwnE.kept {w w' : World} {g cap n : Nat} {xs : List Value} (h : OwnE w g cap n xs) (hb : Below w.heap.size w w') : OwnE w' g cap n xs := h.of_block (hb.block g h.lt)
theorem OwnE.cell {w : World} {g cap n : Nat} {xs : List Value} (h : OwnE w g cap n xs) (j : Nat) (u : Value) (hu : xs[j]? = some u) : w.cell? ⟨g, j, none⟩ = some u := by
  obtain ⟨⟨cur, h1, h2, h3, _⟩, _⟩ := h
  subst h3
  rw [List.getElem?_take] at hu
  split at hu
  · simp only [World.cell?, h1]
    rw [← Array.getElem?_toList]
    exact hu
  · cases hu
theorem OwnE.noInt {w : World} {g cap n : Nat} {xs : List Value} (h : OwnE w g cap n xs) {off : Nat} {k : IntKind} {i : Int} (h0 : w.cell? ⟨g, off, none⟩ = some (.int k i)) : False := by
  obtain ⟨⟨cur, h1, _, _, hgood⟩, _⟩ := h
  simp only [World.cell?, h1] at h0
  have hm : Value.int k i ∈ cur.toList := Array.mem_toList_iff.2 (Array.mem_of_getElem? h0)
  rcases hgood _ hm with ⟨_, hx⟩ | ⟨_, _, _, hx⟩ <;> cases hx
def cellsOf (rs : List RV) : List Value := rs.flatMap RV.cells
theorem cellsOf_at : ∀ (rs : List RV) (i : Nat) (d : RV), rs[i]? = some d → ∀ j v, d.cells[j]? = some v → (cellsOf rs)[i * 4 + j]? = some v
  | d' :: rs, 0, d, h, j, v, hv => by
    simp at h
    subst h
    have hj : j < (d'.cells).length := (List.getElem?_eq_some_iff.1 hv).1
    simp only [cellsOf, List.flatMap_cons]
    rw [Nat.zero_mul, Nat.zero_add, List.getElem?_append_left hj]
    exact hv
  | d' :: rs, i + 1, d, h, j, v, hv => by
    have ih := cellsOf_at rs i d (by simpa using h) j v hv
    have hl : (d'.cells).length = 4 := rfl
    simp only [cellsOf, List.flatMap_cons] at ih ⊢
    rw [List.getElem?_append_right (by omega), hl, show (i + 1) * 4 + j - 4 = i * 4 + j by omega]
    exact ih
theorem cellsOf_app (rs ts : List RV) : cellsOf (rs ++ ts) = cellsOf rs ++ cellsOf ts := by simp [cellsOf]
def BAt (W : World) (b : Nat) (a : Option Addr) (l : List Bool) : Prop := l = [] ∨ ∃ g off, a = some ⟨g, off, none⟩ ∧ g ≠ b ∧ W.rangeAt g off (l.map Value.bool)
structure RAt (W : World) (b : Nat) (a : Option Addr) (l : List Rat) (rq : List RV) : Prop where
  len : rq.length = l.length
  at_ : l = [] ∨ ∃ g off, a = some ⟨g, off, none⟩ ∧ g ≠ b ∧ ∀ (k : Nat) (d : RV), rq[k]? = some d → W.rangeAt g (off + k * 3) d.rat
  vals : ∀ (k : Nat) (d : RV) (q : Rat), rq[k]? = some d → l[k]? = some q → VQ q d.raw W
def ordL (L : Nat) : List (Int × Value) :=
  [(12, .func (.func 67) #[] #[]), (14, .func (.func 65) #[] #[]), (15, .func (.func 68) #[] #[.pointer (some ⟨L, 0, none⟩)]), (16, .func (.func 69) #[] #[.pointer (some ⟨L, 0, none⟩)]), (17, .func (.func 70) #[] #[.pointer (some ⟨L, 0, none⟩)])]
structure OrAt (W : World) (mo L : Nat) : Prop where
  map : IM W mo (ordL L)
  cell : W.heap[L]? = some (.cells #[.func (.func 65) #[] #[]] 122 (0, 0))
structure Env where
  R : Nat
  G : Nat
  b : Nat
  m : Nat
  L : Nat
  mo : Nat
  cap : Nat
  bools : List Bool
  ba : Option Addr
  bc : Nat
  reals : List Rat
  rq : List RV
  ra : Option Addr
  rc : Nat
structure RkAt (W : World) (E : Env) (vs : List Vl) (rs : List RV) : Prop where
  head : W.heap[E.R]? = some (.cells #[.pointer (some ⟨E.b, 0, none⟩), .slice E.ba E.bools.length E.bc, .slice E.ra E.reals.length E.rc, .map (some E.mo), .slice (some ⟨E.G, 0, none⟩) vs.length E.cap] 77 (0, 0))
  row : OwnE W E.G E.cap vs.length (cellsOf rs)
  len : rs.length = vs.length
  vals : ∀ (k : Nat) (d : RV) (v : Vl), rs[k]? = some d → vs[k]? = some v → d.ok v W
  bools : BAt W E.b E.ba E.bools
  reals : RAt W E.b E.ra E.reals E.rq
  ords : OrAt W E.mo E.L
  bench : Bench W E.b E.m false
  tab : Tab W
structure RoomM (b m : Nat) (W W' : World) : Prop where
  g : W.grownBy W' (some b)
  bench : Bench W' b m false
  tab : Tab W'
section
variable {W W' W'' : World} {E : Env} {vs : List Vl} {rs : List RV} {b m : Nat}
theorem RoomM.of_below (hb : Below W.heap.size W W') (h : Bench W b m false) (hT : Tab W) : RoomM b m W W' := ⟨grown_of_below hb _, h.kept hb, hT.kept hb⟩
theorem RoomM.trans (h : RoomM b m W W') (k : RoomM b m W' W'') : RoomM b m W W'' := ⟨grownBy_trans' h.g k.g, k.bench, k.tab⟩
theorem RoomM.kept (h : RoomM b m W W') (hb : Below W'.heap.size W' W'') : RoomM b m W W'' := ⟨grownBy_trans' h.g (grown_of_below hb _), h.bench.kept hb, h.tab.kept hb⟩
theorem range_room {g off : Nat} {C : List Value} (h : W.rangeAt g off C) (hg : W.grownBy W' (some b)) (hne : g ≠ b) : W'.rangeAt g off C := fun j u hu => by
  have := h j u hu
  have hlt := World.block_lt_of_cell? _ _ this
  exact (World.cell?_of_block (a := ⟨g, off + j, none⟩) (hg.block g hlt (by simpa using hne))).trans this
theorem BAt.kept {a : Option Addr} {l : List Bool} (h : BAt W b a l) (hb : Below W.heap.size W W') : BAt W' b a l := by
  rcases h with e | ⟨g, off, e, hne, h⟩
  · exact .inl e
  · exact .inr ⟨g, off, e, hne, fun j u hu => (hb.cell (p := ⟨g, off + j, none⟩) (World.block_lt_of_cell? _ _ (h j u hu))).trans (h j u hu)⟩
theorem BAt.room {a : Option Addr} {l : List Bool} (h : BAt W b a l) (hg : W.grownBy W' (some b)) : BAt W' b a l := by
  rcases h with e | ⟨g, off, e, hne, h⟩
  · exact .inl e
  · exact .inr ⟨g, off, e, hne, range_room h hg hne⟩
theorem RAt.kept {a : Option Addr} {l : List Rat} {rq : List RV} (h : RAt W b a l rq) (hb : Below W.heap.size W W') : RAt W' b a l rq := by
  refine ⟨h.len, ?_, fun k d q h1 h2 => (h.vals k d q h1 h2).kept10 hb⟩
  rcases h.at_ with e | ⟨g, off, e, hne, h⟩
  · exact .inl e
  · exact .inr ⟨g, off, e, hne, fun k d hd j u hu => (hb.cell (p := ⟨g, off + k * 3 + j, none⟩) (World.block_lt_of_cell? _ _ (h k d hd j u hu))).trans (h k d hd j u hu)⟩
theorem RAt.room {a : Option Addr} {l : List Rat} {rq : List RV} (h : RAt W b a l rq) (hB : Bench W b m false) (hg : W.grownBy W' (some b)) : RAt W' b a l rq := by
  refine ⟨h.len, ?_, fun k d q h1 h2 => (h.vals k d q h1 h2).bench hB hg⟩
  rcases h.at_ with e | ⟨g, off, e, hne, h⟩
  · exact .inl e
  · exact .inr ⟨g, off, e, hne, fun k d hd => range_room (h k d hd) hg hne⟩
theorem OrAt.kept {mo L : Nat} (h : OrAt W mo L) (hb : Below W.heap.size W W') : OrAt W' mo L := ⟨h.map.past (hb.block _ h.map.lt), (hb.block _ (Array.getElem?_eq_some_iff.1 h.cell).1).trans h.cell⟩
theorem OrAt.room {mo L : Nat} (h : OrAt W mo L) (hB : Bench W b m false) (hg : W.grownBy W' (some b)) : OrAt W' mo L := by
  unfold Bench at hB
  refine ⟨h.map.past (hg.block _ h.map.lt ?_), (hg.block _ (Array.getElem?_eq_some_iff.1 h.cell).1 ?_).trans h.cell⟩
  · have := h.map.ne hB
    simpa using this
  · have := tag_ne10 h.cell hB (by decide)
    simpa using this
theorem OwnE.ne_cells {g cap n c : Nat} {xs : List Value} (h : OwnE W g cap n xs) {cs : Array Value} {t : TypeId} {f : Nat × Nat} (h2 : W.heap[c]? = some (.cells cs t f)) (ht : 52 ≠ t) : g ≠ c := by
  obtain ⟨⟨cur, h1, _⟩, _⟩ := h
  exact tag_ne10 h1 h2 ht
theorem RkAt.kept (h : RkAt W E vs rs) (hb : Below W.heap.size W W') : RkAt W' E vs rs :=
  ⟨(hb.block _ (Array.getElem?_eq_some_iff.1 h.head).1).trans h.head, h.row.kept hb, h.len, fun k d v h1 h2 => (h.vals k d v h1 h2).kept hb, h.bools.kept hb, h.reals.kept hb, h.ords.kept hb, h.bench.kept hb, h.tab.kept hb⟩
theorem RkAt.room (h : RkAt W E vs rs) (k : RoomM E.b E.m W W') : RkAt W' E vs rs := by
  have hB := h.bench
  unfold Bench at hB
  refine ⟨(k.g.block _ (Array.getElem?_eq_some_iff.1 h.head).1 ?_).trans h.head, h.row.of_block (k.g.block _ h.row.lt ?_), h.len, fun k' d v h1 h2 => ⟨(h.vals k' d v h1 h2).t, (h.vals k' d v h1 h2).q.bench h.bench k.g⟩, h.bools.room k.g, h.reals.room h.bench k.g, h.ords.room h.bench k.g, k.bench, k.tab⟩
  · have := tag_ne10 h.head hB (by decide)
    simpa using this
  · have := h.row.ne_cells hB (by decide)
    simpa using this
theorem RkAt.cells (h : RkAt W E vs rs) : W.cell? ⟨E.R, 0, none⟩ = some (.pointer (some ⟨E.b, 0, none⟩)) ∧ W.cell? ⟨E.R, 1, none⟩ = some (.slice E.ba E.bools.length E.bc) ∧ W.cell? ⟨E.R, 2, none⟩ = some (.slice E.ra E.reals.length E.rc) ∧ W.cell? ⟨E.R, 3, none⟩ = some (.map (some E.mo)) ∧ W.cell? ⟨E.R, 4, none⟩ = some (.slice (some ⟨E.G, 0, none⟩) vs.length E.cap) ∧ W.frozen? ⟨E.R, 4, none⟩ = false := by
  have := h.head
  simp [World.cell?, World.frozen?, this]
theorem RkAt.get (h : RkAt W E vs rs) {x : Int} (hx : 0 ≤ x ∧ x < (vs.length : Int)) : ∃ (k : Nat) (d : RV), x = (k : Int) ∧ k < vs.length ∧ rs[k]? = some d ∧ d.ok (vat vs x) W ∧ W.rangeAt E.G (k * 4) d.cells := by
  obtain ⟨k, rfl⟩ : ∃ k : Nat, x = (k : Int) := ⟨x.toNat, by omega⟩
  have hk : k < vs.length := by omega
  obtain ⟨d, hd⟩ : ∃ d, rs[k]? = some d := ⟨_, List.getElem?_eq_getElem (by rw [h.len]; exact hk)⟩
  have hv : vs[k]? = some (vat vs (k : Int)) := by
    unfold vat
    rw [List.getD_eq_getElem?_getD, show ((k : Int)).toNat = k by omega, List.getElem?_eq_getElem hk]
    rfl
  exact ⟨k, d, rfl, hk, hd, h.vals k d _ hd hv, fun j u hu => h.row.cell _ u (cellsOf_at rs k d hd j u hu)⟩
end
theorem size_value : (Tryz.prog.info? 52).map (·.size) = some 4 := by kernel_rfl
section
variable {W : World} {E : Env} {vs : List Vl} {rs : List RV}
set_option maxRecDepth 100000 in
theorem isTrue_any (h : RkAt W E vs rs) {x : Int} (hx : 0 ≤ x ∧ x < (vs.length : Int)) :
    Calls Tryz.prog 71 #[.pointer (some ⟨E.R, 0, none⟩), .int .i64 x] W (GivesV (.bool (isT vs x)) W) := by
  obtain ⟨k, d, rfl, hk, hd, hok, hr⟩ := h.get hx
  obtain ⟨_, _, _, _, c4, _⟩ := h.cells
  have e0 : W.cell? ⟨E.G, k * 4, none⟩ = some (.bool d.t) := hr 0 _ rfl
  have et : isT vs (k : Int) = d.t := hok.t.symm
  rw [et]
  obtain ⟨hx0, hx1⟩ := hx
  generalize d.t = t at *
  generalize vs.length = n at *
  clear h hok hr hd et
  go_enter Tryz.func71, Tryz.ntmps71
  go_wp2_with fail
  go_ret
  exact GivesV.mk' rfl (Below.refl _ _)
end
end Go.Proofs.YthnklohpmcebkaaGreatDoor

set_option linter.unusedVariables false
set_option linter.unusedSimpArgs false
namespace Go.Proofs.YthnklohpmcebkaaGreatDoor
open Go.RowKit Tm Rep Ev
theorem clone10 {W : World} {a : Option Addr} {c n : Nat} (h : NumAt W a c n) (hl : (L n).length ≤ 1000000) :
    Calls Tryz.prog 61 #[.slice a (L n).length c] W fun e W' => ∃ a' c', e = .returned (.slice a' (L n).length c') ∧ Hid (Below W.heap.size W W') ∧ Hid (NumAt W' a' c' n) :=
  (clone_any a c n W h (by omega)).mono fun e W' hg => by
    obtain ⟨a', c', rfl, ho, hb⟩ := hg
    exact ⟨a', c', rfl, Lib.hid hb, Lib.hid ho.num⟩
theorem fin10 {w W0 W : World} {q : Rat} {s : Bool} {a1 a2 b1 b2 : Option Addr} {l1 c1 l2 c2 e1 e2 : Nat} (hB0 : Below w.heap.size w W0) (k0 : W0.heap[w.heap.size]? = some (.cells #[.bool s, .slice a1 l1 c1, .slice a2 l2 c2] 27 (0, 0))) (b3 : Blank W0 (w.heap.size + 1)) (hb : Below W0.heap.size W0 W)
    (h0 : s = ngQ q) (h1 : l1 = (L (mgQ q)).length) (h2 : l2 = (L (denN q.den)).length) (n1 : NumAt W b1 e1 (mgQ q)) (n2 : NumAt W b2 e2 (denN q.den)) :
    GotQ w q (.returned (.agg #[.bool s, .slice b1 l1 e1, .slice b2 l2 e2])) (set3 ((W.setCell ⟨w.heap.size, 1, none⟩ (.slice b1 l1 e1)).setCell ⟨w.heap.size, 2, none⟩ (.slice b2 l2 e2)) (w.heap.size + 1) s (.slice b1 l1 e1) (.slice b2 l2 e2)) := by
  have hk := stay k0 hb
  have hs : Blank W (w.heap.size + 1) := b3.kept hb
  have hrb : RatBlock W w.heap.size := ⟨_, _, _, _, _, _, _, hk⟩
  have hg : W.grownBy ((W.setCell ⟨w.heap.size, 1, none⟩ (.slice b1 l1 e1)).setCell ⟨w.heap.size, 2, none⟩ (.slice b2 l2 e2)) (some w.heap.size) := grownBy_set (grownBy_set (grown_refl W _))
  have hs2 := hs.grown hg (by omega)
  have hv : VQ q (s, (b1, l1, e1), (b2, l2, e2)) ((W.setCell ⟨w.heap.size, 1, none⟩ (.slice b1 l1 e1)).setCell ⟨w.heap.size, 2, none⟩ (.slice b2 l2 e2)) :=
    ⟨h0, h1, h2, ⟨⟨n1.1.grown hg (hrb.apart n1.1), n1.2⟩, ⟨n2.1.grown hg (hrb.apart n2.1), n2.2⟩⟩⟩
  have hbw : Below w.heap.size w W := hB0.trans (hb.mono hB0.size)
  exact ⟨s, b1, l1, e1, b2, l2, e2, rfl, Lib.hid (set3_below ((hbw.setCell (p := ⟨w.heap.size, 1, none⟩) (Nat.le_refl _) _).setCell (p := ⟨w.heap.size, 2, none⟩) (Nat.le_refl _) _) (by omega)), Lib.hid (hv.set3 hs2 _ _ _)⟩
set_option maxRecDepth 100000 in
set_option maxHeartbeats 8000000 in
theorem own10 {w : World} {ys : Bool} {ya yb : Option Addr} {yl yc yk ye : Nat} {k : Rat} (hy : VQ k (ys, (ya, yl, yc), (yb, yk, ye)) w) (zk : szQ k ≤ 100) :
    Calls Tryz.prog 39 #[.agg #[.bool ys, .slice ya yl yc, .slice yb yk ye]] w (GotQ w k) := by
  obtain ⟨W0, hW0, hB0, b0, b1, hs⟩ := boxes2 w #[.bool ys, .slice ya yl yc, .slice yb yk ye] #[.bool false, .slice none 0 0, .slice none 0 0] 27 27
  obtain ⟨h0, h1, h2, h3⟩ := hy
  dsimp only at h0 h1 h2 h3
  unfold szQ at zk
  have h3' := h3.kept hB0
  have HC1 : Hid (∀ W, Below W0.heap.size W0 W → Calls Tryz.prog 61 #[.slice ya yl yc] W fun e W' => ∃ a' c', e = .returned (.slice a' yl c') ∧ Hid (Below W.heap.size W W') ∧ Hid (NumAt W' a' c' (mgQ k))) := Lib.hid fun W h => by
    rw [h1]; exact clone10 (h3'.kept h).num (by omega)
  have HC2 : Hid (∀ W, Below W0.heap.size W0 W → Calls Tryz.prog 61 #[.slice yb yk ye] W fun e W' => ∃ a' c', e = .returned (.slice a' yk c') ∧ Hid (Below W.heap.size W W') ∧ Hid (NumAt W' a' c' (denN k.den))) := Lib.hid fun W h => by
    rw [h2]; exact clone10 (h3'.kept h).den (by omega)
  have HK : Hid (∀ W, Below W0.heap.size W0 W → _) := Lib.hid fun W h => cells3 (stay b0 h)
  have HR : Hid (∀ W, Below W0.heap.size W0 W → _) := Lib.hid fun W h => cells3 (stay b1 h)
  have HFIN : Hid (∀ W a3 c3 a4 c4, Below W0.heap.size W0 W → NumAt W a3 c3 (mgQ k) → NumAt W a4 c4 (denN k.den) → _) := Lib.hid fun W a3 c3 a4 c4 hb n1 n2 => fin10 hB0 b0 b1 hb h0 h1 h2 n1 n2
  have HW0 := Lib.hid hW0
  obtain ⟨k0, k1, k2, f0, f1, f2⟩ := HK.out W0 (Below.refl _ _)
  have hn1 : w.heap.size ≠ w.heap.size + 1 := by omega
  have hn2 : w.heap.size + 1 ≠ w.heap.size := by omega
  clear hW0 hB0 b0 b1 hs h0 h1 h2 h3 h3' zk
  go_enter Tryz.func39, Tryz.ntmps39
  go_wp2_with fail
  rw [← HW0.out]
  refine wp_region_held_drew (S := (fun _ => True)) (by kernel_rfl) ?_ (fun hHeld => ?_)
  · trivial
  refine wpAnyH_take (i := 0) (v := ?_) (by rfl) (by kernel_rfl) (by kernel_rfl) (by kernel_rfl) (by exact fun _ _ _ h => h) (Or.inl ⟨by rfl, ?_⟩) hHeld ?_
  rotate_left 1
  · intro w' hSw
    (try dsimp only at hSw)
    go_simp
    try with_reducible rfl
  try simp only [Act.put, List.setIfInBounds_toArray, List.set_cons_zero, List.set_cons_succ, List.getElem_toArray, List.getElem_cons_zero, List.getElem_cons_succ]
  refine wpAnyH_take (i := 1) (v := ?_) (by rfl) (by kernel_rfl) (by kernel_rfl) (by kernel_rfl) (by exact fun _ _ _ h => h) (Or.inl ⟨by rfl, ?_⟩) hHeld ?_
  rotate_left 1
  · intro w' hSw
    (try dsimp only at hSw)
    go_simp
    try with_reducible rfl
  try simp only [Act.put, List.setIfInBounds_toArray, List.set_cons_zero, List.set_cons_succ, List.getElem_toArray, List.getElem_cons_zero, List.getElem_cons_succ]
  refine wpAnyH_take (i := 4) (v := ?_) (by rfl) (by kernel_rfl) (by kernel_rfl) (by kernel_rfl) (by exact fun _ _ _ h => h) (Or.inl ⟨by rfl, ?_⟩) hHeld ?_
  rotate_left 1
  · intro w' hSw
    (try dsimp only at hSw)
    go_simp
    try with_reducible rfl
  try simp only [Act.put, List.setIfInBounds_toArray, List.set_cons_zero, List.set_cons_succ, List.getElem_toArray, List.getElem_cons_zero, List.getElem_cons_succ]
  refine wpAnyH_ready (rs := [2, 5]) (by kernel_rfl) (by simp) ?_
  refine AllReadyH.cons (by rfl) (fun K hK => ?_) ?_
  · go_simp
    refine hK.out _ _ ?_ (fun hHeld => ?_)
    · trivial
    clear hK K
    try simp only [Act.put, List.setIfInBounds_toArray, List.set_cons_zero, List.set_cons_succ, List.getElem_toArray, List.getElem_cons_zero, List.getElem_cons_succ]
    refine wpAnyH_ready (rs := [3, 5]) (by kernel_rfl) (by simp) ?_
    refine AllReadyH.cons (by rfl) (fun K hK => ?_) ?_
    · go_simp
      with_reducible refine (HC1.out _ (below_drew _)).mono ?_
      rintro e w3 ⟨a3, c3, rfl, G3, N3⟩
      have hb3 := (below_drew W0).trans (G3.out.mono (Nat.le_refl _))
      obtain ⟨k0, k1, k2, f0, f1, f2⟩ := HK.out _ hb3
      refine hK.out _ _ ?_ (fun hHeld => ?_)
      · trivial
      clear hK K
      try simp only [Act.put, List.setIfInBounds_toArray, List.set_cons_zero, List.set_cons_succ, List.getElem_toArray, List.getElem_cons_zero, List.getElem_cons_succ]
      refine wpAnyH_ready (rs := [5]) (by kernel_rfl) (by simp) ?_
      refine AllReadyH.cons (by rfl) (fun K hK => ?_) AllReadyH.nil
      go_simp
      refine hK.out _ _ ?_ (fun hHeld => ?_)
      · trivial
      clear hK K
      try simp only [Act.put, List.setIfInBounds_toArray, List.set_cons_zero, List.set_cons_succ, List.getElem_toArray, List.getElem_cons_zero, List.getElem_cons_succ]
      refine wpAnyH_take (i := 7) (v := ?_) (by rfl) (by kernel_rfl) (by kernel_rfl) (by kernel_rfl) (by exact fun _ _ _ h => h) (Or.inl ⟨by rfl, ?_⟩) hHeld ?_
      rotate_left 1
      · intro w' hSw
        (try dsimp only at hSw)
        go_simp
        try with_reducible rfl
      try simp only [Act.put, List.setIfInBounds_toArray, List.set_cons_zero, List.set_cons_succ, List.getElem_toArray, List.getElem_cons_zero, List.getElem_cons_succ]
      refine wpAnyH_take (i := 8) (v := ?_) (by rfl) (by kernel_rfl) (by kernel_rfl) (by kernel_rfl) (by exact fun _ _ _ h => h) (Or.inl ⟨by rfl, ?_⟩) hHeld ?_
      rotate_left 1
      · intro w' hSw
        (try dsimp only at hSw)
        go_simp
        try with_reducible rfl
      try simp only [Act.put, List.setIfInBounds_toArray, List.set_cons_zero, List.set_cons_succ, List.getElem_toArray, List.getElem_cons_zero, List.getElem_cons_succ]
      refine wpAnyH_ready (rs := [6]) (by kernel_rfl) (by simp) ?_
      refine AllReadyH.cons (by rfl) (fun K hK => ?_) AllReadyH.nil
      go_simp
      with_reducible refine (HC2.out _ hb3).mono ?_
      rintro e w4 ⟨a4, c4, rfl, G4, N4⟩
      have hb4 := hb3.trans (G4.out.mono hb3.size)
      obtain ⟨k0, k1, k2, f0, f1, f2⟩ := HK.out _ hb4
      obtain ⟨m0, m1, m2, n0, n1, n2⟩ := HR.out _ hb4
      have HE := Lib.hid (HFIN.out _ _ _ _ _ hb4 (N3.out.kept G4.out) N4.out)
      refine hK.out _ _ ?_ (fun hHeld => ?_)
      · trivial
      clear hK K
      try simp only [Act.put, List.setIfInBounds_toArray, List.set_cons_zero, List.set_cons_succ, List.getElem_toArray, List.getElem_cons_zero, List.getElem_cons_succ]
      refine wpAnyH_ready (rs := [9]) (by kernel_rfl) (by simp) ?_
      refine AllReadyH.cons (by rfl) (fun K hK => ?_) AllReadyH.nil
      go_simp
      refine hK.out _ _ ?_ (fun hHeld => ?_)
      · trivial
      clear hK K
      try simp only [Act.put, List.setIfInBounds_toArray, List.set_cons_zero, List.set_cons_succ, List.getElem_toArray, List.getElem_cons_zero, List.getElem_cons_succ]
      refine wpAnyH_take (i := 10) (v := ?_) (by rfl) (by kernel_rfl) (by kernel_rfl) (by kernel_rfl) (by exact fun _ _ _ h => h) (Or.inl ⟨by rfl, ?_⟩) hHeld ?_
      rotate_left 1
      · intro w' hSw
        (try dsimp only at hSw)
        go_simp
        try with_reducible rfl
      try simp only [Act.put, List.setIfInBounds_toArray, List.set_cons_zero, List.set_cons_succ, List.getElem_toArray, List.getElem_cons_zero, List.getElem_cons_succ]
      refine wpAnyH_ready (rs := [11]) (by kernel_rfl) (by simp) ?_
      refine AllReadyH.cons (by rfl) (fun K hK => ?_) AllReadyH.nil
      go_simp
      refine hK.out _ _ ?_ (fun hHeld => ?_)
      · trivial
      clear hK K
      try simp only [Act.put, List.setIfInBounds_toArray, List.set_cons_zero, List.set_cons_succ, List.getElem_toArray, List.getElem_cons_zero, List.getElem_cons_succ]
      refine wpAnyH_done (by kernel_rfl) ?_ _
      clear hHeld HC1 HC2 HK HR HFIN
      go_wp2_with fail
      exact bodyPost_ret (v := .agg #[.bool ys, .slice a3 yl c3, .slice a4 yk c4]) (by simp [results, Tryz.results39, go_sem, m0, m1, m2]) rfl HE.out
    refine AllReadyH.cons (by rfl) (fun K hK => ?_) ?_
    · go_simp
      refine hK.out _ _ ?_ (fun hHeld => ?_)
      · trivial
      clear hK K
      try simp only [Act.put, List.setIfInBounds_toArray, List.set_cons_zero, List.set_cons_succ, List.getElem_toArray, List.getElem_cons_zero, List.getElem_cons_succ]
      refine wpAnyH_ready (rs := [3]) (by kernel_rfl) (by simp) ?_
      refine AllReadyH.cons (by rfl) (fun K hK => ?_) AllReadyH.nil
      go_simp
      with_reducible refine (HC1.out _ (below_drew _)).mono ?_
      rintro e w3 ⟨a3, c3, rfl, G3, N3⟩
      have hb3 := (below_drew W0).trans (G3.out.mono (Nat.le_refl _))
      obtain ⟨k0, k1, k2, f0, f1, f2⟩ := HK.out _ hb3
      refine hK.out _ _ ?_ (fun hHeld => ?_)
      · trivial
      clear hK K
      try simp only [Act.put, List.setIfInBounds_toArray, List.set_cons_zero, List.set_cons_succ, List.getElem_toArray, List.getElem_cons_zero, List.getElem_cons_succ]
      refine wpAnyH_take (i := 7) (v := ?_) (by rfl) (by kernel_rfl) (by kernel_rfl) (by kernel_rfl) (by exact fun _ _ _ h => h) (Or.inl ⟨by rfl, ?_⟩) hHeld ?_
      rotate_left 1
      · intro w' hSw
        (try dsimp only at hSw)
        go_simp
        try with_reducible rfl
      try simp only [Act.put, List.setIfInBounds_toArray, List.set_cons_zero, List.set_cons_succ, List.getElem_toArray, List.getElem_cons_zero, List.getElem_cons_succ]
      refine wpAnyH_take (i := 8) (v := ?_) (by rfl) (by kernel_rfl) (by kernel_rfl) (by kernel_rfl) (by exact fun _ _ _ h => h) (Or.inl ⟨by rfl, ?_⟩) hHeld ?_
      rotate_left 1
      · intro w' hSw
        (try dsimp only at hSw)
        go_simp
        try with_reducible rfl
      try simp only [Act.put, List.setIfInBounds_toArray, List.set_cons_zero, List.set_cons_succ, List.getElem_toArray, List.getElem_cons_zero, List.getElem_cons_succ]
      refine wpAnyH_ready (rs := [6]) (by kernel_rfl) (by simp) ?_
      refine AllReadyH.cons (by rfl) (fun K hK => ?_) AllReadyH.nil
      go_simp
      with_reducible refine (HC2.out _ hb3).mono ?_
      rintro e w4 ⟨a4, c4, rfl, G4, N4⟩
      have hb4 := hb3.trans (G4.out.mono hb3.size)
      obtain ⟨k0, k1, k2, f0, f1, f2⟩ := HK.out _ hb4
      obtain ⟨m0, m1, m2, n0, n1, n2⟩ := HR.out _ hb4
      have HE := Lib.hid (HFIN.out _ _ _ _ _ hb4 (N3.out.kept G4.out) N4.out)
      refine hK.out _ _ ?_ (fun hHeld => ?_)
      · trivial
      clear hK K
      try simp only [Act.put, List.setIfInBounds_toArray, List.set_cons_zero, List.set_cons_succ, List.getElem_toArray, List.getElem_cons_zero, List.getElem_cons_succ]
      refine wpAnyH_ready (rs := [9]) (by kernel_rfl) (by simp) ?_
      refine AllReadyH.cons (by rfl) (fun K hK => ?_) AllReadyH.nil
      go_simp
      refine hK.out _ _ ?_ (fun hHeld => ?_)
      · trivial
      clear hK K
      try simp only [Act.put, List.setIfInBounds_toArray, List.set_cons_zero, List.set_cons_succ, List.getElem_toArray, List.getElem_cons_zero, List.getElem_cons_succ]
      refine wpAnyH_take (i := 10) (v := ?_) (by rfl) (by kernel_rfl) (by kernel_rfl) (by kernel_rfl) (by exact fun _ _ _ h => h) (Or.inl ⟨by rfl, ?_⟩) hHeld ?_
      rotate_left 1
      · intro w' hSw
        (try dsimp only at hSw)
        go_simp
        try with_reducible rfl
      try simp only [Act.put, List.setIfInBounds_toArray, List.set_cons_zero, List.set_cons_succ, List.getElem_toArray, List.getElem_cons_zero, List.getElem_cons_succ]
      refine wpAnyH_ready (rs := [11]) (by kernel_rfl) (by simp) ?_
      refine AllReadyH.cons (by rfl) (fun K hK => ?_) AllReadyH.nil
      go_simp
      refine hK.out _ _ ?_ (fun hHeld => ?_)
      · trivial
      clear hK K
      try simp only [Act.put, List.setIfInBounds_toArray, List.set_cons_zero, List.set_cons_succ, List.getElem_toArray, List.getElem_cons_zero, List.getElem_cons_succ]
      refine wpAnyH_done (by kernel_rfl) ?_ _
      clear hHeld HC1 HC2 HK HR HFIN
      go_wp2_with fail
      exact bodyPost_ret (v := .agg #[.bool ys, .slice a3 yl c3, .slice a4 yk c4]) (by simp [results, Tryz.results39, go_sem, m0, m1, m2]) rfl HE.out
    exact AllReadyH.nil
  refine AllReadyH.cons (by rfl) (fun K hK => ?_) ?_
  · go_simp
    refine hK.out _ _ ?_ (fun hHeld => ?_)
    · trivial
    clear hK K
    try simp only [Act.put, List.setIfInBounds_toArray, List.set_cons_zero, List.set_cons_succ, List.getElem_toArray, List.getElem_cons_zero, List.getElem_cons_succ]
    refine wpAnyH_ready (rs := [2]) (by kernel_rfl) (by simp) ?_
    refine AllReadyH.cons (by rfl) (fun K hK => ?_) AllReadyH.nil
    go_simp
    refine hK.out _ _ ?_ (fun hHeld => ?_)
    · trivial
    clear hK K
    try simp only [Act.put, List.setIfInBounds_toArray, List.set_cons_zero, List.set_cons_succ, List.getElem_toArray, List.getElem_cons_zero, List.getElem_cons_succ]
    refine wpAnyH_ready (rs := [3]) (by kernel_rfl) (by simp) ?_
    refine AllReadyH.cons (by rfl) (fun K hK => ?_) AllReadyH.nil
    go_simp
    with_reducible refine (HC1.out _ (below_drew _)).mono ?_
    rintro e w3 ⟨a3, c3, rfl, G3, N3⟩
    have hb3 := (below_drew W0).trans (G3.out.mono (Nat.le_refl _))
    obtain ⟨k0, k1, k2, f0, f1, f2⟩ := HK.out _ hb3
    refine hK.out _ _ ?_ (fun hHeld => ?_)
    · trivial
    clear hK K
    try simp only [Act.put, List.setIfInBounds_toArray, List.set_cons_zero, List.set_cons_succ, List.getElem_toArray, List.getElem_cons_zero, List.getElem_cons_succ]
    refine wpAnyH_take (i := 7) (v := ?_) (by rfl) (by kernel_rfl) (by kernel_rfl) (by kernel_rfl) (by exact fun _ _ _ h => h) (Or.inl ⟨by rfl, ?_⟩) hHeld ?_
    rotate_left 1
    · intro w' hSw
      (try dsimp only at hSw)
      go_simp
      try with_reducible rfl
    try simp only [Act.put, List.setIfInBounds_toArray, List.set_cons_zero, List.set_cons_succ, List.getElem_toArray, List.getElem_cons_zero, List.getElem_cons_succ]
    refine wpAnyH_take (i := 8) (v := ?_) (by rfl) (by kernel_rfl) (by kernel_rfl) (by kernel_rfl) (by exact fun _ _ _ h => h) (Or.inl ⟨by rfl, ?_⟩) hHeld ?_
    rotate_left 1
    · intro w' hSw
      (try dsimp only at hSw)
      go_simp
      try with_reducible rfl
    try simp only [Act.put, List.setIfInBounds_toArray, List.set_cons_zero, List.set_cons_succ, List.getElem_toArray, List.getElem_cons_zero, List.getElem_cons_succ]
    refine wpAnyH_ready (rs := [6]) (by kernel_rfl) (by simp) ?_
    refine AllReadyH.cons (by rfl) (fun K hK => ?_) AllReadyH.nil
    go_simp
    with_reducible refine (HC2.out _ hb3).mono ?_
    rintro e w4 ⟨a4, c4, rfl, G4, N4⟩
    have hb4 := hb3.trans (G4.out.mono hb3.size)
    obtain ⟨k0, k1, k2, f0, f1, f2⟩ := HK.out _ hb4
    obtain ⟨m0, m1, m2, n0, n1, n2⟩ := HR.out _ hb4
    have HE := Lib.hid (HFIN.out _ _ _ _ _ hb4 (N3.out.kept G4.out) N4.out)
    refine hK.out _ _ ?_ (fun hHeld => ?_)
    · trivial
    clear hK K
    try simp only [Act.put, List.setIfInBounds_toArray, List.set_cons_zero, List.set_cons_succ, List.getElem_toArray, List.getElem_cons_zero, List.getElem_cons_succ]
    refine wpAnyH_ready (rs := [9]) (by kernel_rfl) (by simp) ?_
    refine AllReadyH.cons (by rfl) (fun K hK => ?_) AllReadyH.nil
    go_simp
    refine hK.out _ _ ?_ (fun hHeld => ?_)
    · trivial
    clear hK K
    try simp only [Act.put, List.setIfInBounds_toArray, List.set_cons_zero, List.set_cons_succ, List.getElem_toArray, List.getElem_cons_zero, List.getElem_cons_succ]
    refine wpAnyH_take (i := 10) (v := ?_) (by rfl) (by kernel_rfl) (by kernel_rfl) (by kernel_rfl) (by exact fun _ _ _ h => h) (Or.inl ⟨by rfl, ?_⟩) hHeld ?_
    rotate_left 1
    · intro w' hSw
      (try dsimp only at hSw)
      go_simp
      try with_reducible rfl
    try simp only [Act.put, List.setIfInBounds_toArray, List.set_cons_zero, List.set_cons_succ, List.getElem_toArray, List.getElem_cons_zero, List.getElem_cons_succ]
    refine wpAnyH_ready (rs := [11]) (by kernel_rfl) (by simp) ?_
    refine AllReadyH.cons (by rfl) (fun K hK => ?_) AllReadyH.nil
    go_simp
    refine hK.out _ _ ?_ (fun hHeld => ?_)
    · trivial
    clear hK K
    try simp only [Act.put, List.setIfInBounds_toArray, List.set_cons_zero, List.set_cons_succ, List.getElem_toArray, List.getElem_cons_zero, List.getElem_cons_succ]
    refine wpAnyH_done (by kernel_rfl) ?_ _
    clear hHeld HC1 HC2 HK HR HFIN
    go_wp2_with fail
    exact bodyPost_ret (v := .agg #[.bool ys, .slice a3 yl c3, .slice a4 yk c4]) (by simp [results, Tryz.results39, go_sem, m0, m1, m2]) rfl HE.out
  exact AllReadyH.nil
end Go.Proofs.YthnklohpmcebkaaGreatDoor

set_option linter.unusedVariables false
set_option linter.unusedSimpArgs false
namespace Go.Proofs.YthnklohpmcebkaaGreatDoor
open Go.RowKit Tm Rep Ev
set_option maxRecDepth 100000 in
theorem rank_any (t : Bool) (w : World) : Calls Tryz.prog 94 #[.bool t] w (fun e w' => e = .returned (.int .i64 (if t then 1 else 0)) ∧ w = w') := by
  cases t with
  | true =>
    go_enter Tryz.func94, Tryz.ntmps94
    go_wp2_with fail
    go_ret
    exact ⟨rfl, rfl⟩
  | false =>
    go_enter Tryz.func94, Tryz.ntmps94
    go_wp2_with fail
    go_ret
    exact ⟨rfl, rfl⟩
set_option maxRecDepth 100000 in
theorem isNaN_int (x : Int) (w : World) : Calls Tryz.prog 105 #[.int .i64 x] w (fun e w' => e = .returned (.bool false) ∧ w = w') := by
  have hx : (x != x) = false := by simp
  go_enter Tryz.func105, Tryz.ntmps105
  go_wp2_with fail
  go_ret
  exact ⟨rfl, rfl⟩
set_option maxRecDepth 100000 in
theorem cmp_int (x y : Int) (w : World) : Calls Tryz.prog 93 #[.int .i64 x, .int .i64 y] w (fun e w' => e = .returned (.int .i64 (if x < y then -1 else if y < x then 1 else 0)) ∧ w = w') := by
  have H1 := Lib.hid (isNaN_int x w)
  have H2 := Lib.hid (isNaN_int y w)
  by_cases h1 : x < y
  · rw [if_pos h1]
    have h1' : decide (x < y) = true := by simpa using h1
    clear h1
    go_enter Tryz.func93, Tryz.ntmps93
    go_wp2_with fail
    refine H1.out.mono ?_
    rintro e w' ⟨rfl, rfl⟩
    go_wp2_with fail
    refine H2.out.mono ?_
    rintro e w' ⟨rfl, rfl⟩
    go_wp2_with fail
    go_ret
    exact ⟨rfl, rfl⟩
  · rw [if_neg h1]
    have h1' : decide (x < y) = false := by simpa using h1
    by_cases h2 : y < x
    · rw [if_pos h2]
      have h2' : decide (y < x) = true := by simpa using h2
      clear h1 h2
      go_enter Tryz.func93, Tryz.ntmps93
      go_wp2_with fail
      refine H1.out.mono ?_
      rintro e w' ⟨rfl, rfl⟩
      go_wp2_with fail
      refine H2.out.mono ?_
      rintro e w' ⟨rfl, rfl⟩
      go_wp2_with fail
      go_ret
      exact ⟨rfl, rfl⟩
    · rw [if_neg h2]
      have h2' : decide (y < x) = false := by simpa using h2
      clear h1 h2
      go_enter Tryz.func93, Tryz.ntmps93
      go_wp2_with fail
      refine H1.out.mono ?_
      rintro e w' ⟨rfl, rfl⟩
      go_wp2_with fail
      refine H2.out.mono ?_
      rintro e w' ⟨rfl, rfl⟩
      go_wp2_with fail
      go_ret
      exact ⟨rfl, rfl⟩
section
variable {w : World} {d1 d2 : RV} {v1 v2 : Vl}
theorem rv_cmp (h1 : d1.ok v1 w) (h2 : d2.ok v2 w) (s1 : szQ v1.2 ≤ 100) (s2 : szQ v2.2 ≤ 100) :
    Calls Tryz.prog 95 #[.agg #[.bool d1.s, .slice d1.z1 d1.m1 d1.k1, .slice d1.z2 d1.m2 d1.k2], .agg #[.bool d2.s, .slice d2.z1 d2.m1 d2.k1, .slice d2.z2 d2.m2 d2.k2]] w (GivesV (.int .i64 (cmpQ v1.2 v2.2)) w) :=
  CmpP_q (h1.q.ratx (by omega)) (h2.q.ratx (by omega))
set_option maxRecDepth 100000 in
set_option maxHeartbeats 4000000 in
theorem compare_any (h1 : d1.ok v1 w) (h2 : d2.ok v2 w) (s1 : szQ v1.2 ≤ 100) (s2 : szQ v2.2 ≤ 100) :
    Calls Tryz.prog 66 #[.agg #[.bool d1.t, .bool d1.s, .slice d1.z1 d1.m1 d1.k1, .slice d1.z2 d1.m2 d1.k2], .agg #[.bool d2.t, .bool d2.s, .slice d2.z1 d2.m1 d2.k1, .slice d2.z2 d2.m2 d2.k2]] w (GivesV (.int .i64 (cmpV v1 v2)) w) := by
  obtain ⟨W2, hW2, hb2, b1, b2, hs2⟩ := boxes2 w #[.bool d1.t, .bool d1.s, .slice d1.z1 d1.m1 d1.k1, .slice d1.z2 d1.m2 d1.k2] #[.bool d2.t, .bool d2.s, .slice d2.z1 d2.m1 d2.k1, .slice d2.z2 d2.m2 d2.k2] 52 52
  have hr1 : W2.rangeAt w.heap.size 0 d1.cells := fun j u hu => by
    simp only [World.cell?, b1, Nat.zero_add]
    simpa [RV.cells] using hu
  have hr2 : W2.rangeAt (w.heap.size + 1) 0 d2.cells := fun j u hu => by
    simp only [World.cell?, b2, Nat.zero_add]
    simpa [RV.cells] using hu
  have e1 : W2.cell? ⟨w.heap.size, 0, none⟩ = some (.bool d1.t) := hr1 0 _ rfl
  have e2 : W2.cell? ⟨w.heap.size + 1, 0, none⟩ = some (.bool d2.t) := hr2 0 _ rfl
  have q1 : W2.rangeAt w.heap.size 1 d1.rat := fun j u hu => by
    have := hr1 (1 + j) u (by rw [show d1.cells = [.bool d1.t] ++ d1.rat from rfl, List.getElem?_append_right (by simp)]; simpa using hu)
    simpa using this
  have q2 : W2.rangeAt (w.heap.size + 1) 1 d2.rat := fun j u hu => by
    have := hr2 (1 + j) u (by rw [show d2.cells = [.bool d2.t] ++ d2.rat from rfl, List.getElem?_append_right (by simp)]; simpa using hu)
    simpa using this
  have HC := Lib.hid (rv_cmp (h1.kept hb2) (h2.kept hb2) s1 s2)
  have HQ := Lib.hid (And.intro q1 q2)
  have HB := Lib.hid hb2
  have hc : cmpV v1 v2 = if d1.t = d2.t then cmpQ v1.2 v2.2 else if d1.t then 1 else -1 := by unfold cmpV; rw [h1.t, h2.t]
  rw [hc]
  generalize cmpQ v1.2 v2.2 = c at *
  clear h1 h2 s1 s2 hr1 hr2 q1 q2 hc hb2 b1 b2
  by_cases ht : d1.t = d2.t
  · rw [if_pos ht]
    obtain ⟨t1, ht1⟩ : ∃ t, d1.t = t := ⟨_, rfl⟩
    rw [← ht] at hW2 ⊢
    rw [ht1] at hW2 ⊢
    clear ht ht1 e1 e2
    cases t1 <;> (
    go_enter Tryz.func66, Tryz.ntmps66
    go_wp2_with fail
    rw [← hW2]
    clear hW2
    go_wp2_with (first | (refine wpList_val (.agg #[.bool d1.s, .slice d1.z1 d1.m1 d1.k1, .slice d1.z2 d1.m2 d1.k2]) (run_load_op 27 (.tmp 17) (by with_reducible rfl) w.heap.size 1 (by rfl) d1.rat _ HQ.out.1 Tryz.underlying27 rfl (by rw [size_ratio]; rfl)) (by rfl) ?_) | (refine wpList_val (.agg #[.bool d2.s, .slice d2.z1 d2.m1 d2.k1, .slice d2.z2 d2.m2 d2.k2]) (run_load_op 27 (.tmp 19) (by with_reducible rfl) (w.heap.size + 1) 1 (by rfl) d2.rat _ HQ.out.2 Tryz.underlying27 rfl (by rw [size_ratio]; rfl)) (by rfl) ?_))
    refine HC.out.mono ?_
    rintro e w' ⟨rfl, hb⟩
    have HB' := Lib.hid (HB.out.trans (hb.mono HB.out.size))
    clear hb
    go_wp2_with fail
    go_ret
    exact GivesV.mk' rfl HB'.out)
  · rw [if_neg ht]
    have HR1 := Lib.hid (rank_any d1.t)
    have HR2 := Lib.hid (rank_any d2.t)
    have HCI := Lib.hid (cmp_int (if d1.t then 1 else 0) (if d2.t then 1 else 0))
    have hv : (if (if d1.t then (1 : Int) else 0) < (if d2.t then (1 : Int) else 0) then (-1 : Int) else if (if d2.t then (1 : Int) else 0) < (if d1.t then (1 : Int) else 0) then 1 else 0) = if d1.t then 1 else -1 := by
      revert ht
      cases d1.t <;> cases d2.t <;> simp
    rw [hv] at HCI
    have HX : Hid (W2.drew.cell? ⟨w.heap.size, 0, none⟩ = some (.bool d1.t) ∧ W2.drew.cell? ⟨w.heap.size + 1, 0, none⟩ = some (.bool d2.t)) := Lib.hid ⟨e1, e2⟩
    obtain ⟨t1, ht1⟩ : ∃ t, d1.t = t := ⟨_, rfl⟩
    obtain ⟨t2, ht2⟩ : ∃ t, d2.t = t := ⟨_, rfl⟩
    generalize (if d1.t then (1 : Int) else -1) = r at *
    generalize (if d1.t then (1 : Int) else 0) = r1 at *
    generalize (if d2.t then (1 : Int) else 0) = r2 at *
    rw [ht1] at HR1
    rw [ht2] at HR2
    rw [ht1, ht2] at ht HX hW2 ⊢
    clear hv HC HQ e1 e2 ht1 ht2
    have arm : t2 = !t1 := by revert ht; cases t1 <;> cases t2 <;> simp
    subst arm
    clear ht
    cases t1
    · simp only [Bool.not_true, Bool.not_false] at HX HR2 hW2 ⊢
      go_enter Tryz.func66, Tryz.ntmps66
      go_wp2_with fail
      rw [← hW2]
      clear hW2
      go_wp2_with fail
      refine wp_region_held_drew (S := (fun w' => w'.cell? ⟨w.heap.size, 0, none⟩ = some (.bool false) ∧ w'.cell? ⟨w.heap.size + 1, 0, none⟩ = some (.bool true))) (by kernel_rfl) ?_ (fun hHeld => ?_)
      · exact HX.out
      refine wpAnyH_take (i := 0) (v := ?_) (by rfl) (by kernel_rfl) (by kernel_rfl) (by kernel_rfl) (by exact fun _ _ _ h => h) (Or.inl ⟨by rfl, ?_⟩) hHeld ?_
      rotate_left 1
      · intro w' hSw
        (try dsimp only at hSw)
        go_simp
        try with_reducible rfl
      try simp only [Act.put, List.setIfInBounds_toArray, List.set_cons_zero, List.set_cons_succ, List.getElem_toArray, List.getElem_cons_zero, List.getElem_cons_succ]
      refine wpAnyH_take (i := 1) (v := .bool false) (by rfl) (by kernel_rfl) (by kernel_rfl) (by kernel_rfl) (by exact fun _ _ _ h => h) (Or.inl ⟨by rfl, ?_⟩) hHeld ?_
      · intro w' hSw
        obtain ⟨s1, s2⟩ := hSw
        go_simp
      try simp only [Act.put, List.setIfInBounds_toArray, List.set_cons_zero, List.set_cons_succ, List.getElem_toArray, List.getElem_cons_zero, List.getElem_cons_succ]
      refine wpAnyH_take (i := 3) (v := ?_) (by rfl) (by kernel_rfl) (by kernel_rfl) (by kernel_rfl) (by exact fun _ _ _ h => h) (Or.inl ⟨by rfl, ?_⟩) hHeld ?_
      rotate_left 1
      · intro w' hSw
        (try dsimp only at hSw)
        go_simp
        try with_reducible rfl
      try simp only [Act.put, List.setIfInBounds_toArray, List.set_cons_zero, List.set_cons_succ, List.getElem_toArray, List.getElem_cons_zero, List.getElem_cons_succ]
      refine wpAnyH_take (i := 4) (v := .bool true) (by rfl) (by kernel_rfl) (by kernel_rfl) (by kernel_rfl) (by exact fun _ _ _ h => h) (Or.inl ⟨by rfl, ?_⟩) hHeld ?_
      · intro w' hSw
        obtain ⟨s1, s2⟩ := hSw
        go_simp
      try simp only [Act.put, List.setIfInBounds_toArray, List.set_cons_zero, List.set_cons_succ, List.getElem_toArray, List.getElem_cons_zero, List.getElem_cons_succ]
      refine wpAnyH_ready (rs := [2]) (by kernel_rfl) (by simp) ?_
      refine AllReadyH.cons (by rfl) (fun K hK => ?_) AllReadyH.nil
      go_simp
      refine (HR1.out _).mono ?_
      rintro e w5 ⟨rfl, rfl⟩
      refine hK.out _ _ ?_ (fun hHeld => ?_)
      · exact hHeld
      clear hK K
      try simp only [Act.put, List.setIfInBounds_toArray, List.set_cons_zero, List.set_cons_succ, List.getElem_toArray, List.getElem_cons_zero, List.getElem_cons_succ]
      refine wpAnyH_ready (rs := [5]) (by kernel_rfl) (by simp) ?_
      refine AllReadyH.cons (by rfl) (fun K hK => ?_) AllReadyH.nil
      go_simp
      refine (HR2.out _).mono ?_
      rintro e w5 ⟨rfl, rfl⟩
      refine hK.out _ _ ?_ (fun hHeld => ?_)
      · exact hHeld
      clear hK K
      try simp only [Act.put, List.setIfInBounds_toArray, List.set_cons_zero, List.set_cons_succ, List.getElem_toArray, List.getElem_cons_zero, List.getElem_cons_succ]
      refine wpAnyH_ready (rs := [6]) (by kernel_rfl) (by simp) ?_
      refine AllReadyH.cons (by rfl) (fun K hK => ?_) AllReadyH.nil
      go_simp
      refine (HCI.out _).mono ?_
      rintro e w5 ⟨rfl, rfl⟩
      refine hK.out _ _ ?_ (fun hHeld => ?_)
      · exact hHeld
      clear hK K
      try simp only [Act.put, List.setIfInBounds_toArray, List.set_cons_zero, List.set_cons_succ, List.getElem_toArray, List.getElem_cons_zero, List.getElem_cons_succ]
      refine wpAnyH_take (i := 7) (v := ?_) (by rfl) (by kernel_rfl) (by kernel_rfl) (by kernel_rfl) (by exact fun _ _ _ h => h) (Or.inl ⟨by rfl, ?_⟩) hHeld ?_
      rotate_left 1
      · intro w' hSw
        (try dsimp only at hSw)
        go_simp
        try with_reducible rfl
      try simp only [Act.put, List.setIfInBounds_toArray, List.set_cons_zero, List.set_cons_succ, List.getElem_toArray, List.getElem_cons_zero, List.getElem_cons_succ]
      refine wpAnyH_done (by kernel_rfl) ?_ _
      clear hHeld
      go_wp2_with fail
      go_ret
      exact GivesV.mk' rfl HB.out.drew
    · simp only [Bool.not_true, Bool.not_false] at HX HR2 hW2 ⊢
      go_enter Tryz.func66, Tryz.ntmps66
      go_wp2_with fail
      rw [← hW2]
      clear hW2
      go_wp2_with fail
      refine wp_region_held_drew (S := (fun w' => w'.cell? ⟨w.heap.size, 0, none⟩ = some (.bool true) ∧ w'.cell? ⟨w.heap.size + 1, 0, none⟩ = some (.bool false))) (by kernel_rfl) ?_ (fun hHeld => ?_)
      · exact HX.out
      refine wpAnyH_take (i := 0) (v := ?_) (by rfl) (by kernel_rfl) (by kernel_rfl) (by kernel_rfl) (by exact fun _ _ _ h => h) (Or.inl ⟨by rfl, ?_⟩) hHeld ?_
      rotate_left 1
      · intro w' hSw
        (try dsimp only at hSw)
        go_simp
        try with_reducible rfl
      try simp only [Act.put, List.setIfInBounds_toArray, List.set_cons_zero, List.set_cons_succ, List.getElem_toArray, List.getElem_cons_zero, List.getElem_cons_succ]
      refine wpAnyH_take (i := 1) (v := .bool true) (by rfl) (by kernel_rfl) (by kernel_rfl) (by kernel_rfl) (by exact fun _ _ _ h => h) (Or.inl ⟨by rfl, ?_⟩) hHeld ?_
      · intro w' hSw
        obtain ⟨s1, s2⟩ := hSw
        go_simp
      try simp only [Act.put, List.setIfInBounds_toArray, List.set_cons_zero, List.set_cons_succ, List.getElem_toArray, List.getElem_cons_zero, List.getElem_cons_succ]
      refine wpAnyH_take (i := 3) (v := ?_) (by rfl) (by kernel_rfl) (by kernel_rfl) (by kernel_rfl) (by exact fun _ _ _ h => h) (Or.inl ⟨by rfl, ?_⟩) hHeld ?_
      rotate_left 1
      · intro w' hSw
        (try dsimp only at hSw)
        go_simp
        try with_reducible rfl
      try simp only [Act.put, List.setIfInBounds_toArray, List.set_cons_zero, List.set_cons_succ, List.getElem_toArray, List.getElem_cons_zero, List.getElem_cons_succ]
      refine wpAnyH_take (i := 4) (v := .bool false) (by rfl) (by kernel_rfl) (by kernel_rfl) (by kernel_rfl) (by exact fun _ _ _ h => h) (Or.inl ⟨by rfl, ?_⟩) hHeld ?_
      · intro w' hSw
        obtain ⟨s1, s2⟩ := hSw
        go_simp
      try simp only [Act.put, List.setIfInBounds_toArray, List.set_cons_zero, List.set_cons_succ, List.getElem_toArray, List.getElem_cons_zero, List.getElem_cons_succ]
      refine wpAnyH_ready (rs := [2]) (by kernel_rfl) (by simp) ?_
      refine AllReadyH.cons (by rfl) (fun K hK => ?_) AllReadyH.nil
      go_simp
      refine (HR1.out _).mono ?_
      rintro e w5 ⟨rfl, rfl⟩
      refine hK.out _ _ ?_ (fun hHeld => ?_)
      · exact hHeld
      clear hK K
      try simp only [Act.put, List.setIfInBounds_toArray, List.set_cons_zero, List.set_cons_succ, List.getElem_toArray, List.getElem_cons_zero, List.getElem_cons_succ]
      refine wpAnyH_ready (rs := [5]) (by kernel_rfl) (by simp) ?_
      refine AllReadyH.cons (by rfl) (fun K hK => ?_) AllReadyH.nil
      go_simp
      refine (HR2.out _).mono ?_
      rintro e w5 ⟨rfl, rfl⟩
      refine hK.out _ _ ?_ (fun hHeld => ?_)
      · exact hHeld
      clear hK K
      try simp only [Act.put, List.setIfInBounds_toArray, List.set_cons_zero, List.set_cons_succ, List.getElem_toArray, List.getElem_cons_zero, List.getElem_cons_succ]
      refine wpAnyH_ready (rs := [6]) (by kernel_rfl) (by simp) ?_
      refine AllReadyH.cons (by rfl) (fun K hK => ?_) AllReadyH.nil
      go_simp
      refine (HCI.out _).mono ?_
      rintro e w5 ⟨rfl, rfl⟩
      refine hK.out _ _ ?_ (fun hHeld => ?_)
      · exact hHeld
      clear hK K
      try simp only [Act.put, List.setIfInBounds_toArray, List.set_cons_zero, List.set_cons_succ, List.getElem_toArray, List.getElem_cons_zero, List.getElem_cons_succ]
      refine wpAnyH_take (i := 7) (v := ?_) (by rfl) (by kernel_rfl) (by kernel_rfl) (by kernel_rfl) (by exact fun _ _ _ h => h) (Or.inl ⟨by rfl, ?_⟩) hHeld ?_
      rotate_left 1
      · intro w' hSw
        (try dsimp only at hSw)
        go_simp
        try with_reducible rfl
      try simp only [Act.put, List.setIfInBounds_toArray, List.set_cons_zero, List.set_cons_succ, List.getElem_toArray, List.getElem_cons_zero, List.getElem_cons_succ]
      refine wpAnyH_done (by kernel_rfl) ?_ _
      clear hHeld
      go_wp2_with fail
      go_ret
      exact GivesV.mk' rfl HB.out.drew
set_option maxRecDepth 100000 in
set_option maxHeartbeats 4000000 in
theorem less_any (h1 : d1.ok v1 w) (h2 : d2.ok v2 w) (s1 : szQ v1.2 ≤ 100) (s2 : szQ v2.2 ≤ 100) :
    Calls Tryz.prog 65 #[.agg #[.bool d1.t, .bool d1.s, .slice d1.z1 d1.m1 d1.k1, .slice d1.z2 d1.m2 d1.k2], .agg #[.bool d2.t, .bool d2.s, .slice d2.z1 d2.m1 d2.k1, .slice d2.z2 d2.m2 d2.k2]] w (GivesV (.bool (decide (cmpV v1 v2 < 0))) w) := by
  obtain ⟨W2, hW2, hb2, b1, b2, hs2⟩ := boxes2 w #[.bool d1.t, .bool d1.s, .slice d1.z1 d1.m1 d1.k1, .slice d1.z2 d1.m2 d1.k2] #[.bool d2.t, .bool d2.s, .slice d2.z1 d2.m1 d2.k1, .slice d2.z2 d2.m2 d2.k2] 52 52
  have hr1 : W2.rangeAt w.heap.size 0 d1.cells := fun j u hu => by
    simp only [World.cell?, b1, Nat.zero_add]
    simpa [RV.cells] using hu
  have hr2 : W2.rangeAt (w.heap.size + 1) 0 d2.cells := fun j u hu => by
    simp only [World.cell?, b2, Nat.zero_add]
    simpa [RV.cells] using hu
  have HQ := Lib.hid (And.intro hr1 hr2)
  have HB := Lib.hid hb2
  have HC := Lib.hid (compare_any (h1.kept hb2) (h2.kept hb2) s1 s2)
  generalize cmpV v1 v2 = c at *
  have hbq : (c == 0) = decide (c = 0) := rfl
  clear h1 h2 s1 s2 hr1 hr2 hb2 b1 b2
  go_enter Tryz.func65, Tryz.ntmps65
  go_wp2_with fail
  rw [← hW2]
  clear hW2
  go_wp2_with (first | (refine wpList_val (.agg #[.bool d1.t, .bool d1.s, .slice d1.z1 d1.m1 d1.k1, .slice d1.z2 d1.m2 d1.k2]) (run_load_op 52 (.tmp 2) (by with_reducible rfl) w.heap.size 0 (by rfl) d1.cells _ HQ.out.1 Tryz.underlying52 rfl (by rw [size_value]; rfl)) (by rfl) ?_) | (refine wpList_val (.agg #[.bool d2.t, .bool d2.s, .slice d2.z1 d2.m1 d2.k1, .slice d2.z2 d2.m2 d2.k2]) (run_load_op 52 (.tmp 3) (by with_reducible rfl) (w.heap.size + 1) 0 (by rfl) d2.cells _ HQ.out.2 Tryz.underlying52 rfl (by rw [size_value]; rfl)) (by rfl) ?_))
  refine HC.out.mono ?_
  rintro e w' ⟨rfl, hb⟩
  have HB' := Lib.hid (HB.out.trans (hb.mono HB.out.size))
  clear hb
  go_wp2_with fail
  go_ret
  exact GivesV.mk' rfl HB'.out
set_option maxRecDepth 100000 in
set_option maxHeartbeats 4000000 in
theorem equal_any (h1 : d1.ok v1 w) (h2 : d2.ok v2 w) (s1 : szQ v1.2 ≤ 100) (s2 : szQ v2.2 ≤ 100) :
    Calls Tryz.prog 67 #[.agg #[.bool d1.t, .bool d1.s, .slice d1.z1 d1.m1 d1.k1, .slice d1.z2 d1.m2 d1.k2], .agg #[.bool d2.t, .bool d2.s, .slice d2.z1 d2.m1 d2.k1, .slice d2.z2 d2.m2 d2.k2]] w (GivesV (.bool (decide (cmpV v1 v2 = 0))) w) := by
  obtain ⟨W2, hW2, hb2, b1, b2, hs2⟩ := boxes2 w #[.bool d1.t, .bool d1.s, .slice d1.z1 d1.m1 d1.k1, .slice d1.z2 d1.m2 d1.k2] #[.bool d2.t, .bool d2.s, .slice d2.z1 d2.m1 d2.k1, .slice d2.z2 d2.m2 d2.k2] 52 52
  have hr1 : W2.rangeAt w.heap.size 0 d1.cells := fun j u hu => by
    simp only [World.cell?, b1, Nat.zero_add]
    simpa [RV.cells] using hu
  have hr2 : W2.rangeAt (w.heap.size + 1) 0 d2.cells := fun j u hu => by
    simp only [World.cell?, b2, Nat.zero_add]
    simpa [RV.cells] using hu
  have HQ := Lib.hid (And.intro hr1 hr2)
  have HB := Lib.hid hb2
  have HC := Lib.hid (compare_any (h1.kept hb2) (h2.kept hb2) s1 s2)
  generalize cmpV v1 v2 = c at *
  have hbq : (c == 0) = decide (c = 0) := rfl
  clear h1 h2 s1 s2 hr1 hr2 hb2 b1 b2
  go_enter Tryz.func67, Tryz.ntmps67
  go_wp2_with fail
  rw [← hW2]
  clear hW2
  go_wp2_with (first | (refine wpList_val (.agg #[.bool d1.t, .bool d1.s, .slice d1.z1 d1.m1 d1.k1, .slice d1.z2 d1.m2 d1.k2]) (run_load_op 52 (.tmp 2) (by with_reducible rfl) w.heap.size 0 (by rfl) d1.cells _ HQ.out.1 Tryz.underlying52 rfl (by rw [size_value]; rfl)) (by rfl) ?_) | (refine wpList_val (.agg #[.bool d2.t, .bool d2.s, .slice d2.z1 d2.m1 d2.k1, .slice d2.z2 d2.m2 d2.k2]) (run_load_op 52 (.tmp 3) (by with_reducible rfl) (w.heap.size + 1) 0 (by rfl) d2.cells _ HQ.out.2 Tryz.underlying52 rfl (by rw [size_value]; rfl)) (by rfl) ?_))
  refine HC.out.mono ?_
  rintro e w' ⟨rfl, hb⟩
  have HB' := Lib.hid (HB.out.trans (hb.mono HB.out.size))
  clear hb
  go_wp2_with fail
  go_ret
  exact GivesV.mk' rfl HB'.out
set_option maxRecDepth 100000 in
set_option maxHeartbeats 4000000 in
theorem atMost_any {L : Nat} (hL : w.cell? ⟨L, 0, none⟩ = some (.func (.func 65) #[] #[])) (h1 : d1.ok v1 w) (h2 : d2.ok v2 w) (s1 : szQ v1.2 ≤ 100) (s2 : szQ v2.2 ≤ 100) :
    Calls Tryz.prog 68 #[.agg #[.bool d1.t, .bool d1.s, .slice d1.z1 d1.m1 d1.k1, .slice d1.z2 d1.m2 d1.k2], .agg #[.bool d2.t, .bool d2.s, .slice d2.z1 d2.m1 d2.k1, .slice d2.z2 d2.m2 d2.k2], .pointer (some ⟨L, 0, none⟩)] w (GivesV (.bool (!decide (cmpV v2 v1 < 0))) w) := by
  obtain ⟨W2, hW2, hb2, b1, b2, hs2⟩ := boxes2 w #[.bool d1.t, .bool d1.s, .slice d1.z1 d1.m1 d1.k1, .slice d1.z2 d1.m2 d1.k2] #[.bool d2.t, .bool d2.s, .slice d2.z1 d2.m1 d2.k1, .slice d2.z2 d2.m2 d2.k2] 52 52
  have hr1 : W2.rangeAt w.heap.size 0 d1.cells := fun j u hu => by
    simp only [World.cell?, b1, Nat.zero_add]
    simpa [RV.cells] using hu
  have hr2 : W2.rangeAt (w.heap.size + 1) 0 d2.cells := fun j u hu => by
    simp only [World.cell?, b2, Nat.zero_add]
    simpa [RV.cells] using hu
  have HQ := Lib.hid (And.intro hr1 hr2)
  have HB := Lib.hid hb2
  have HC := Lib.hid (less_any (h2.kept hb2) (h1.kept hb2) s2 s1)
  have HL2 : Hid (W2.cell? ⟨L, 0, none⟩ = some (.func (.func 65) #[] #[])) := Lib.hid ((hb2.cell (p := ⟨L, 0, none⟩) (World.block_lt_of_cell? _ _ hL)).trans hL)
  generalize decide (cmpV v2 v1 < 0) = c at *
  have hL3 := HL2.out
  rw [hW2] at hL3
  clear h1 h2 s1 s2 hr1 hr2 hb2 b1 b2 hL
  go_enter Tryz.func68, Tryz.ntmps68
  go_wp2_with fail
  rw [← hW2]
  clear hW2
  go_wp2_with (first | (refine wpList_val (.agg #[.bool d1.t, .bool d1.s, .slice d1.z1 d1.m1 d1.k1, .slice d1.z2 d1.m2 d1.k2]) (run_load_op 52 (.tmp 3) (by with_reducible rfl) w.heap.size 0 (by rfl) d1.cells _ HQ.out.1 Tryz.underlying52 rfl (by rw [size_value]; rfl)) (by rfl) ?_) | (refine wpList_val (.agg #[.bool d2.t, .bool d2.s, .slice d2.z1 d2.m1 d2.k1, .slice d2.z2 d2.m2 d2.k2]) (run_load_op 52 (.tmp 4) (by with_reducible rfl) (w.heap.size + 1) 0 (by rfl) d2.cells _ HQ.out.2 Tryz.underlying52 rfl (by rw [size_value]; rfl)) (by rfl) ?_))
  refine HC.out.mono ?_
  rintro e w' ⟨rfl, hb⟩
  have HB' := Lib.hid (HB.out.trans (hb.mono HB.out.size))
  clear hb
  go_wp2_with fail
  go_ret
  exact GivesV.mk' rfl HB'.out
set_option maxRecDepth 100000 in
set_option maxHeartbeats 4000000 in
theorem greater_any {L : Nat} (hL : w.cell? ⟨L, 0, none⟩ = some (.func (.func 65) #[] #[])) (h1 : d1.ok v1 w) (h2 : d2.ok v2 w) (s1 : szQ v1.2 ≤ 100) (s2 : szQ v2.2 ≤ 100) :
    Calls Tryz.prog 69 #[.agg #[.bool d1.t, .bool d1.s, .slice d1.z1 d1.m1 d1.k1, .slice d1.z2 d1.m2 d1.k2], .agg #[.bool d2.t, .bool d2.s, .slice d2.z1 d2.m1 d2.k1, .slice d2.z2 d2.m2 d2.k2], .pointer (some ⟨L, 0, none⟩)] w (GivesV (.bool (decide (cmpV v2 v1 < 0))) w) := by
  obtain ⟨W2, hW2, hb2, b1, b2, hs2⟩ := boxes2 w #[.bool d1.t, .bool d1.s, .slice d1.z1 d1.m1 d1.k1, .slice d1.z2 d1.m2 d1.k2] #[.bool d2.t, .bool d2.s, .slice d2.z1 d2.m1 d2.k1, .slice d2.z2 d2.m2 d2.k2] 52 52
  have hr1 : W2.rangeAt w.heap.size 0 d1.cells := fun j u hu => by
    simp only [World.cell?, b1, Nat.zero_add]
    simpa [RV.cells] using hu
  have hr2 : W2.rangeAt (w.heap.size + 1) 0 d2.cells := fun j u hu => by
    simp only [World.cell?, b2, Nat.zero_add]
    simpa [RV.cells] using hu
  have HQ := Lib.hid (And.intro hr1 hr2)
  have HB := Lib.hid hb2
  have HC := Lib.hid (less_any (h2.kept hb2) (h1.kept hb2) s2 s1)
  have HL2 : Hid (W2.cell? ⟨L, 0, none⟩ = some (.func (.func 65) #[] #[])) := Lib.hid ((hb2.cell (p := ⟨L, 0, none⟩) (World.block_lt_of_cell? _ _ hL)).trans hL)
  generalize decide (cmpV v2 v1 < 0) = c at *
  have hL3 := HL2.out
  rw [hW2] at hL3
  clear h1 h2 s1 s2 hr1 hr2 hb2 b1 b2 hL
  go_enter Tryz.func69, Tryz.ntmps69
  go_wp2_with fail
  rw [← hW2]
  clear hW2
  go_wp2_with (first | (refine wpList_val (.agg #[.bool d1.t, .bool d1.s, .slice d1.z1 d1.m1 d1.k1, .slice d1.z2 d1.m2 d1.k2]) (run_load_op 52 (.tmp 3) (by with_reducible rfl) w.heap.size 0 (by rfl) d1.cells _ HQ.out.1 Tryz.underlying52 rfl (by rw [size_value]; rfl)) (by rfl) ?_) | (refine wpList_val (.agg #[.bool d2.t, .bool d2.s, .slice d2.z1 d2.m1 d2.k1, .slice d2.z2 d2.m2 d2.k2]) (run_load_op 52 (.tmp 4) (by with_reducible rfl) (w.heap.size + 1) 0 (by rfl) d2.cells _ HQ.out.2 Tryz.underlying52 rfl (by rw [size_value]; rfl)) (by rfl) ?_))
  refine HC.out.mono ?_
  rintro e w' ⟨rfl, hb⟩
  have HB' := Lib.hid (HB.out.trans (hb.mono HB.out.size))
  clear hb
  go_wp2_with fail
  go_ret
  exact GivesV.mk' rfl HB'.out
set_option maxRecDepth 100000 in
set_option maxHeartbeats 4000000 in
theorem atLeast_any {L : Nat} (hL : w.cell? ⟨L, 0, none⟩ = some (.func (.func 65) #[] #[])) (h1 : d1.ok v1 w) (h2 : d2.ok v2 w) (s1 : szQ v1.2 ≤ 100) (s2 : szQ v2.2 ≤ 100) :
    Calls Tryz.prog 70 #[.agg #[.bool d1.t, .bool d1.s, .slice d1.z1 d1.m1 d1.k1, .slice d1.z2 d1.m2 d1.k2], .agg #[.bool d2.t, .bool d2.s, .slice d2.z1 d2.m1 d2.k1, .slice d2.z2 d2.m2 d2.k2], .pointer (some ⟨L, 0, none⟩)] w (GivesV (.bool (!decide (cmpV v1 v2 < 0))) w) := by
  obtain ⟨W2, hW2, hb2, b1, b2, hs2⟩ := boxes2 w #[.bool d1.t, .bool d1.s, .slice d1.z1 d1.m1 d1.k1, .slice d1.z2 d1.m2 d1.k2] #[.bool d2.t, .bool d2.s, .slice d2.z1 d2.m1 d2.k1, .slice d2.z2 d2.m2 d2.k2] 52 52
  have hr1 : W2.rangeAt w.heap.size 0 d1.cells := fun j u hu => by
    simp only [World.cell?, b1, Nat.zero_add]
    simpa [RV.cells] using hu
  have hr2 : W2.rangeAt (w.heap.size + 1) 0 d2.cells := fun j u hu => by
    simp only [World.cell?, b2, Nat.zero_add]
    simpa [RV.cells] using hu
  have HQ := Lib.hid (And.intro hr1 hr2)
  have HB := Lib.hid hb2
  have HC := Lib.hid (less_any (h1.kept hb2) (h2.kept hb2) s1 s2)
  have HL2 : Hid (W2.cell? ⟨L, 0, none⟩ = some (.func (.func 65) #[] #[])) := Lib.hid ((hb2.cell (p := ⟨L, 0, none⟩) (World.block_lt_of_cell? _ _ hL)).trans hL)
  generalize decide (cmpV v1 v2 < 0) = c at *
  have hL3 := HL2.out
  rw [hW2] at hL3
  clear h1 h2 s1 s2 hr1 hr2 hb2 b1 b2 hL
  go_enter Tryz.func70, Tryz.ntmps70
  go_wp2_with fail
  rw [← hW2]
  clear hW2
  go_wp2_with (first | (refine wpList_val (.agg #[.bool d1.t, .bool d1.s, .slice d1.z1 d1.m1 d1.k1, .slice d1.z2 d1.m2 d1.k2]) (run_load_op 52 (.tmp 3) (by with_reducible rfl) w.heap.size 0 (by rfl) d1.cells _ HQ.out.1 Tryz.underlying52 rfl (by rw [size_value]; rfl)) (by rfl) ?_) | (refine wpList_val (.agg #[.bool d2.t, .bool d2.s, .slice d2.z1 d2.m1 d2.k1, .slice d2.z2 d2.m2 d2.k2]) (run_load_op 52 (.tmp 4) (by with_reducible rfl) (w.heap.size + 1) 0 (by rfl) d2.cells _ HQ.out.2 Tryz.underlying52 rfl (by rw [size_value]; rfl)) (by rfl) ?_))
  refine HC.out.mono ?_
  rintro e w' ⟨rfl, hb⟩
  have HB' := Lib.hid (HB.out.trans (hb.mono HB.out.size))
  clear hb
  go_wp2_with fail
  go_ret
  exact GivesV.mk' rfl HB'.out
end
end Go.Proofs.YthnklohpmcebkaaGreatDoor

set_option linter.unusedVariables false
set_option linter.unusedSimpArgs false
namespace Go.Proofs.YthnklohpmcebkaaGreatDoor
open Go.RowKit Tm Rep Ev
section
variable {w : World} {p : Int → Bool} {b : Nat}
set_option maxRecDepth 100000 in
set_option maxHeartbeats 2000000 in
theorem index_isTrue {a : Option Addr} {kids : List Int} {c : Nat} (hk : KAt w a kids c) (hp : ∀ W, Below w.heap.size w W → ∀ x ∈ kids, Calls Tryz.prog 71 #[.pointer (some ⟨b, 0, none⟩), .int .i64 x] W (GivesV (.bool (p x)) W)) :
    Calls Tryz.prog 35 #[.slice a kids.length c, .func (.func 71) #[.pointer (some ⟨b, 0, none⟩)] #[]] w (GivesV (.int .i64 (idxP p kids)) w) := by
  have HP := Lib.hid hp
  have HKK := Lib.hid hk
  obtain ⟨n, hn⟩ : ∃ n, kids.length = n := ⟨_, rfl⟩
  have HN := Lib.hid hn
  have hn6 : n ≤ 1000000 := by have := hk.few; omega
  rw [hn]
  clear hp hk hn
  go_enter Tryz.func35, Tryz.ntmps35
  go_wp2_with fail
  go_loopw [8] (fun (iv : Value) (wr : World) => ∃ k : Nat, k ≤ n ∧ iv = .int .i64 (k : Int) ∧ Hid (∀ y ∈ kids.take k, p y = false) ∧ Hid (Below w.heap.size w wr)) (fun iv _ => n - (intOf iv).toNat)
  case atStart => exact ⟨0, Nat.zero_le _, rfl, Lib.hid (by simp), Lib.hid (Below.refl _ _)⟩
  case round =>
    obtain ⟨k, hkn, rfl, HE, HB⟩ := hrel
    by_cases hlt : k < n
    · have hget : kids[k]? = some (kids.getD k 0) := by rw [List.getD_eq_getElem?_getD, List.getElem?_eq_getElem (by rw [HN.out]; exact hlt)]; rfl
      have HG := Lib.hid hget
      have hmem := List.mem_of_getElem? hget
      obtain ⟨bb, off, rfl, hc⟩ := (HKK.out.kept HB.out).get hget
      clear hget
      generalize kids.getD k 0 = x at *
      have HC := Lib.hid (HP.out wr HB.out x hmem)
      have hki : (k : Int) < (n : Int) := by omega
      have hiw : wrap64 ((k : Int) + 1) = (k : Int) + 1 := IntWalk.wrap64_in _ (by omega)
      clear hmem
      cases hq : p x with
      | true =>
        have HV := Lib.hid (idxP_at (p := p) HE.out HG.out hq)
        rw [hq] at HC
        clear hq
        go_wp2_with fail
        refine HC.out.mono ?_
        rintro e w2 ⟨rfl, hb2⟩
        have HB2 := Lib.hid (HB.out.trans (hb2.mono HB.out.size))
        clear hb2
        go_wp2_with fail
        go_ret
        exact GivesV.mk' (by rw [HV.out]; rfl) HB2.out
      | false =>
        have HV : Hid (∀ y ∈ kids.take (k + 1), p y = false) := Lib.hid (by
          rw [take_next HG.out]
          intro y hy
          rcases List.mem_append.1 hy with hy | hy
          · exact HE.out y hy
          · have : y = x := by simpa using hy
            rw [this]; exact hq)
        rw [hq] at HC
        clear hq
        go_wp2_with fail
        refine HC.out.mono ?_
        rintro e w2 ⟨rfl, hb2⟩
        have HB2 := Lib.hid (HB.out.trans (hb2.mono HB.out.size))
        clear hb2
        go_wp2_with fail
        go_roundw
        case rel => exact ⟨k + 1, by omega, by go_num, HV, HB2⟩
        case measure => simp [intOf]; omega
    · obtain rfl : k = n := by omega
      have HV : Hid (idxP p kids = -1) := Lib.hid (idxP_none (by have := HE.out; rw [List.take_of_length_le (by rw [HN.out]; exact Nat.le_refl _)] at this; exact this))
      go_wp2_with fail
      go_ret
      exact GivesV.mk' (by rw [HV.out]; rfl) HB.out
theorem contains_isTrue {a : Option Addr} {kids : List Int} {c : Nat} (hk : KAt w a kids c) (hp : ∀ W, Below w.heap.size w W → ∀ x ∈ kids, Calls Tryz.prog 71 #[.pointer (some ⟨b, 0, none⟩), .int .i64 x] W (GivesV (.bool (p x)) W)) :
    Calls Tryz.prog 19 #[.slice a kids.length c, .func (.func 71) #[.pointer (some ⟨b, 0, none⟩)] #[]] w (GivesV (.bool (kids.any p)) w) := by
  have HI := Lib.hid (index_isTrue hk hp)
  have he := idxP_any p kids
  rw [← he]
  generalize idxP p kids = x at *
  clear hp hk he
  go_enter Tryz.func19, Tryz.ntmps19
  go_wp2_with fail
  refine HI.out.mono ?_
  rintro e w' ⟨rfl, hb⟩
  have HB := Lib.hid hb
  clear hb
  go_wp2_with fail
  go_ret
  exact GivesV.mk' rfl HB.out
set_option maxRecDepth 100000 in
set_option maxHeartbeats 2000000 in
theorem index_noTruth {a : Option Addr} {kids : List Int} {c : Nat} (hk : KAt w a kids c) (hp : ∀ W, Below w.heap.size w W → ∀ x ∈ kids, Calls Tryz.prog 17 #[.int .i64 x, .pointer (some ⟨b, 0, none⟩)] W (GivesV (.bool (p x)) W)) :
    Calls Tryz.prog 35 #[.slice a kids.length c, .func (.func 17) #[] #[.pointer (some ⟨b, 0, none⟩)]] w (GivesV (.int .i64 (idxP p kids)) w) := by
  have HP := Lib.hid hp
  have HKK := Lib.hid hk
  obtain ⟨n, hn⟩ : ∃ n, kids.length = n := ⟨_, rfl⟩
  have HN := Lib.hid hn
  have hn6 : n ≤ 1000000 := by have := hk.few; omega
  rw [hn]
  clear hp hk hn
  go_enter Tryz.func35, Tryz.ntmps35
  go_wp2_with fail
  go_loopw [8] (fun (iv : Value) (wr : World) => ∃ k : Nat, k ≤ n ∧ iv = .int .i64 (k : Int) ∧ Hid (∀ y ∈ kids.take k, p y = false) ∧ Hid (Below w.heap.size w wr)) (fun iv _ => n - (intOf iv).toNat)
  case atStart => exact ⟨0, Nat.zero_le _, rfl, Lib.hid (by simp), Lib.hid (Below.refl _ _)⟩
  case round =>
    obtain ⟨k, hkn, rfl, HE, HB⟩ := hrel
    by_cases hlt : k < n
    · have hget : kids[k]? = some (kids.getD k 0) := by rw [List.getD_eq_getElem?_getD, List.getElem?_eq_getElem (by rw [HN.out]; exact hlt)]; rfl
      have HG := Lib.hid hget
      have hmem := List.mem_of_getElem? hget
      obtain ⟨bb, off, rfl, hc⟩ := (HKK.out.kept HB.out).get hget
      clear hget
      generalize kids.getD k 0 = x at *
      have HC := Lib.hid (HP.out wr HB.out x hmem)
      have hki : (k : Int) < (n : Int) := by omega
      have hiw : wrap64 ((k : Int) + 1) = (k : Int) + 1 := IntWalk.wrap64_in _ (by omega)
      clear hmem
      cases hq : p x with
      | true =>
        have HV := Lib.hid (idxP_at (p := p) HE.out HG.out hq)
        rw [hq] at HC
        clear hq
        go_wp2_with fail
        refine HC.out.mono ?_
        rintro e w2 ⟨rfl, hb2⟩
        have HB2 := Lib.hid (HB.out.trans (hb2.mono HB.out.size))
        clear hb2
        go_wp2_with fail
        go_ret
        exact GivesV.mk' (by rw [HV.out]; rfl) HB2.out
      | false =>
        have HV : Hid (∀ y ∈ kids.take (k + 1), p y = false) := Lib.hid (by
          rw [take_next HG.out]
          intro y hy
          rcases List.mem_append.1 hy with hy | hy
          · exact HE.out y hy
          · have : y = x := by simpa using hy
            rw [this]; exact hq)
        rw [hq] at HC
        clear hq
        go_wp2_with fail
        refine HC.out.mono ?_
        rintro e w2 ⟨rfl, hb2⟩
        have HB2 := Lib.hid (HB.out.trans (hb2.mono HB.out.size))
        clear hb2
        go_wp2_with fail
        go_roundw
        case rel => exact ⟨k + 1, by omega, by go_num, HV, HB2⟩
        case measure => simp [intOf]; omega
    · obtain rfl : k = n := by omega
      have HV : Hid (idxP p kids = -1) := Lib.hid (idxP_none (by have := HE.out; rw [List.take_of_length_le (by rw [HN.out]; exact Nat.le_refl _)] at this; exact this))
      go_wp2_with fail
      go_ret
      exact GivesV.mk' (by rw [HV.out]; rfl) HB.out
theorem contains_noTruth {a : Option Addr} {kids : List Int} {c : Nat} (hk : KAt w a kids c) (hp : ∀ W, Below w.heap.size w W → ∀ x ∈ kids, Calls Tryz.prog 17 #[.int .i64 x, .pointer (some ⟨b, 0, none⟩)] W (GivesV (.bool (p x)) W)) :
    Calls Tryz.prog 19 #[.slice a kids.length c, .func (.func 17) #[] #[.pointer (some ⟨b, 0, none⟩)]] w (GivesV (.bool (kids.any p)) w) := by
  have HI := Lib.hid (index_noTruth hk hp)
  have he := idxP_any p kids
  rw [← he]
  generalize idxP p kids = x at *
  clear hp hk he
  go_enter Tryz.func19, Tryz.ntmps19
  go_wp2_with fail
  refine HI.out.mono ?_
  rintro e w' ⟨rfl, hb⟩
  have HB := Lib.hid hb
  clear hb
  go_wp2_with fail
  go_ret
  exact GivesV.mk' rfl HB.out
set_option maxRecDepth 100000 in
set_option maxHeartbeats 2000000 in
theorem index_isFalse {a : Option Addr} {kids : List Int} {c : Nat} (hk : KAt w a kids c) (hp : ∀ W, Below w.heap.size w W → ∀ x ∈ kids, Calls Tryz.prog 20 #[.int .i64 x, .pointer (some ⟨b, 0, none⟩)] W (GivesV (.bool (p x)) W)) :
    Calls Tryz.prog 35 #[.slice a kids.length c, .func (.func 20) #[] #[.pointer (some ⟨b, 0, none⟩)]] w (GivesV (.int .i64 (idxP p kids)) w) := by
  have HP := Lib.hid hp
  have HKK := Lib.hid hk
  obtain ⟨n, hn⟩ : ∃ n, kids.length = n := ⟨_, rfl⟩
  have HN := Lib.hid hn
  have hn6 : n ≤ 1000000 := by have := hk.few; omega
  rw [hn]
  clear hp hk hn
  go_enter Tryz.func35, Tryz.ntmps35
  go_wp2_with fail
  go_loopw [8] (fun (iv : Value) (wr : World) => ∃ k : Nat, k ≤ n ∧ iv = .int .i64 (k : Int) ∧ Hid (∀ y ∈ kids.take k, p y = false) ∧ Hid (Below w.heap.size w wr)) (fun iv _ => n - (intOf iv).toNat)
  case atStart => exact ⟨0, Nat.zero_le _, rfl, Lib.hid (by simp), Lib.hid (Below.refl _ _)⟩
  case round =>
    obtain ⟨k, hkn, rfl, HE, HB⟩ := hrel
    by_cases hlt : k < n
    · have hget : kids[k]? = some (kids.getD k 0) := by rw [List.getD_eq_getElem?_getD, List.getElem?_eq_getElem (by rw [HN.out]; exact hlt)]; rfl
      have HG := Lib.hid hget
      have hmem := List.mem_of_getElem? hget
      obtain ⟨bb, off, rfl, hc⟩ := (HKK.out.kept HB.out).get hget
      clear hget
      generalize kids.getD k 0 = x at *
      have HC := Lib.hid (HP.out wr HB.out x hmem)
      have hki : (k : Int) < (n : Int) := by omega
      have hiw : wrap64 ((k : Int) + 1) = (k : Int) + 1 := IntWalk.wrap64_in _ (by omega)
      clear hmem
      cases hq : p x with
      | true =>
        have HV := Lib.hid (idxP_at (p := p) HE.out HG.out hq)
        rw [hq] at HC
        clear hq
        go_wp2_with fail
        refine HC.out.mono ?_
        rintro e w2 ⟨rfl, hb2⟩
        have HB2 := Lib.hid (HB.out.trans (hb2.mono HB.out.size))
        clear hb2
        go_wp2_with fail
        go_ret
        exact GivesV.mk' (by rw [HV.out]; rfl) HB2.out
      | false =>
        have HV : Hid (∀ y ∈ kids.take (k + 1), p y = false) := Lib.hid (by
          rw [take_next HG.out]
          intro y hy
          rcases List.mem_append.1 hy with hy | hy
          · exact HE.out y hy
          · have : y = x := by simpa using hy
            rw [this]; exact hq)
        rw [hq] at HC
        clear hq
        go_wp2_with fail
        refine HC.out.mono ?_
        rintro e w2 ⟨rfl, hb2⟩
        have HB2 := Lib.hid (HB.out.trans (hb2.mono HB.out.size))
        clear hb2
        go_wp2_with fail
        go_roundw
        case rel => exact ⟨k + 1, by omega, by go_num, HV, HB2⟩
        case measure => simp [intOf]; omega
    · obtain rfl : k = n := by omega
      have HV : Hid (idxP p kids = -1) := Lib.hid (idxP_none (by have := HE.out; rw [List.take_of_length_le (by rw [HN.out]; exact Nat.le_refl _)] at this; exact this))
      go_wp2_with fail
      go_ret
      exact GivesV.mk' (by rw [HV.out]; rfl) HB.out
theorem contains_isFalse {a : Option Addr} {kids : List Int} {c : Nat} (hk : KAt w a kids c) (hp : ∀ W, Below w.heap.size w W → ∀ x ∈ kids, Calls Tryz.prog 20 #[.int .i64 x, .pointer (some ⟨b, 0, none⟩)] W (GivesV (.bool (p x)) W)) :
    Calls Tryz.prog 19 #[.slice a kids.length c, .func (.func 20) #[] #[.pointer (some ⟨b, 0, none⟩)]] w (GivesV (.bool (kids.any p)) w) := by
  have HI := Lib.hid (index_isFalse hk hp)
  have he := idxP_any p kids
  rw [← he]
  generalize idxP p kids = x at *
  clear hp hk he
  go_enter Tryz.func19, Tryz.ntmps19
  go_wp2_with fail
  refine HI.out.mono ?_
  rintro e w' ⟨rfl, hb⟩
  have HB := Lib.hid hb
  clear hb
  go_wp2_with fail
  go_ret
  exact GivesV.mk' rfl HB.out
end
section
variable {W : World} {E : Env} {vs : List Vl} {rs : List RV} {ka : Option Addr} {kids : List Int} {kc : Nat}
theorem all_next {l : List Int} {k : Nat} {x : Int} {p : Int → Bool} (hx : l[k]? = some x) (h : (l.take k).all p = true) (hp : p x = true) : (l.take (k + 1)).all p = true := by
  rw [take_next hx, List.all_append, h]
  simp [hp]
theorem all_stop {l : List Int} {k : Nat} {x : Int} {p : Int → Bool} (hx : l[k]? = some x) (hp : p x = false) : l.all p = false := by
  rw [List.all_eq_false]
  exact ⟨x, List.mem_of_getElem? hx, by simp [hp]⟩
set_option maxRecDepth 100000 in
set_option maxHeartbeats 2000000 in
theorem areTrue_any (h : RkAt W E vs rs) (hk : KAt W ka kids kc) (hin : ∀ x ∈ kids, 0 ≤ x ∧ x < (vs.length : Int)) :
    Calls Tryz.prog 82 #[.pointer (some ⟨E.R, 0, none⟩), .slice ka kids.length kc] W (GivesV (.bool (kids.all (isT vs))) W) := by
  have HP : Hid (∀ W', Below W.heap.size W W' → ∀ x ∈ kids, Calls Tryz.prog 71 #[.pointer (some ⟨E.R, 0, none⟩), .int .i64 x] W' (GivesV (.bool (isT vs x)) W')) := Lib.hid fun W' hW x hx => isTrue_any (h.kept hW) (hin x hx)
  have HKK := Lib.hid hk
  obtain ⟨n, hn⟩ : ∃ n, kids.length = n := ⟨_, rfl⟩
  have HN := Lib.hid hn
  have hn6 : n ≤ 1000000 := by have := hk.few; omega
  rw [hn]
  obtain ⟨p, hp⟩ : ∃ p, isT vs = p := ⟨_, rfl⟩
  rw [hp] at HP ⊢
  clear hk hn h hin hp
  go_enter Tryz.func82, Tryz.ntmps82
  go_wp2_with fail
  go_loopw [9] (fun (iv : Value) (wr : World) => ∃ k : Nat, k ≤ n ∧ iv = .int .i64 (k : Int) ∧ Hid ((kids.take k).all p = true) ∧ Hid (Below W.heap.size W wr)) (fun iv _ => n - (intOf iv).toNat)
  case atStart => exact ⟨0, Nat.zero_le _, rfl, Lib.hid rfl, Lib.hid (Below.refl _ _)⟩
  case round =>
    obtain ⟨k, hkn, rfl, HE, HB⟩ := hrel
    by_cases hlt : k < n
    · have hget : kids[k]? = some (kids.getD k 0) := by rw [List.getD_eq_getElem?_getD, List.getElem?_eq_getElem (by rw [HN.out]; exact hlt)]; rfl
      have HG := Lib.hid hget
      have hmem := List.mem_of_getElem? hget
      obtain ⟨bb, off, rfl, hc⟩ := (HKK.out.kept HB.out).get hget
      clear hget
      generalize kids.getD k 0 = x at *
      have HC := Lib.hid (HP.out wr HB.out x hmem)
      have hki : (k : Int) < (n : Int) := by omega
      have hiw : wrap64 ((k : Int) + 1) = (k : Int) + 1 := IntWalk.wrap64_in _ (by omega)
      clear hmem
      cases hq : p x with
      | false =>
        have HV := Lib.hid (all_stop HG.out hq)
        rw [hq] at HC
        clear hq
        go_wp2_with fail
        refine HC.out.mono ?_
        rintro e w2 ⟨rfl, hb2⟩
        have HB2 := Lib.hid (HB.out.trans (hb2.mono HB.out.size))
        clear hb2
        go_wp2_with fail
        go_ret
        exact GivesV.mk' (by rw [HV.out]; rfl) HB2.out
      | true =>
        have HV := Lib.hid (all_next HG.out HE.out hq)
        rw [hq] at HC
        clear hq
        go_wp2_with fail
        refine HC.out.mono ?_
        rintro e w2 ⟨rfl, hb2⟩
        have HB2 := Lib.hid (HB.out.trans (hb2.mono HB.out.size))
        clear hb2
        go_wp2_with fail
        go_roundw
        case rel => exact ⟨k + 1, by omega, by go_num, HV, HB2⟩
        case measure => simp [intOf]; omega
    · obtain rfl : k = n := by omega
      have HV : Hid (kids.all p = true) := Lib.hid (by have := HE.out; rw [List.take_of_length_le (by rw [HN.out]; exact Nat.le_refl _)] at this; exact this)
      go_wp2_with fail
      go_ret
      exact GivesV.mk' (by rw [HV.out]; rfl) HB.out
set_option maxRecDepth 100000 in
set_option maxHeartbeats 2000000 in
theorem isOdd_any (h : RkAt W E vs rs) (hk : KAt W ka kids kc) (hin : ∀ x ∈ kids, 0 ≤ x ∧ x < (vs.length : Int)) :
    Calls Tryz.prog 83 #[.pointer (some ⟨E.R, 0, none⟩), .slice ka kids.length kc] W (GivesV (.bool (odd vs false kids)) W) := by
  have HP : Hid (∀ W', Below W.heap.size W W' → ∀ x ∈ kids, Calls Tryz.prog 71 #[.pointer (some ⟨E.R, 0, none⟩), .int .i64 x] W' (GivesV (.bool (isT vs x)) W')) := Lib.hid fun W' hW x hx => isTrue_any (h.kept hW) (hin x hx)
  have HKK := Lib.hid hk
  obtain ⟨n, hn⟩ : ∃ n, kids.length = n := ⟨_, rfl⟩
  have HN := Lib.hid hn
  have hn6 : n ≤ 1000000 := by have := hk.few; omega
  rw [hn]
  clear hk hn h hin
  go_enter Tryz.func83, Tryz.ntmps83
  go_wp2_with fail
  go_loopw [5, 10] (fun (ov iv : Value) (wr : World) => ∃ (k : Nat) (o : Bool), k ≤ n ∧ ov = .bool o ∧ iv = .int .i64 (k : Int) ∧ Hid (odd vs false (kids.take k) = o) ∧ Hid (Below W.heap.size W wr)) (fun _ iv _ => n - (intOf iv).toNat)
  case atStart => exact ⟨0, false, Nat.zero_le _, rfl, rfl, Lib.hid rfl, Lib.hid (Below.refl _ _)⟩
  case round =>
    obtain ⟨k, o, hkn, rfl, rfl, HE, HB⟩ := hrel
    by_cases hlt : k < n
    · have hget : kids[k]? = some (kids.getD k 0) := by rw [List.getD_eq_getElem?_getD, List.getElem?_eq_getElem (by rw [HN.out]; exact hlt)]; rfl
      have HG := Lib.hid hget
      have hmem := List.mem_of_getElem? hget
      obtain ⟨bb, off, rfl, hc⟩ := (HKK.out.kept HB.out).get hget
      clear hget
      generalize kids.getD k 0 = x at *
      have HC := Lib.hid (HP.out wr HB.out x hmem)
      have hki : (k : Int) < (n : Int) := by omega
      have hiw : wrap64 ((k : Int) + 1) = (k : Int) + 1 := IntWalk.wrap64_in _ (by omega)
      have HV : Hid (odd vs false (kids.take (k + 1)) = (o != isT vs x)) := Lib.hid (by rw [take_next HG.out, odd_app, HE.out]; rfl)
      clear hmem
      generalize isT vs x = q at *
      go_wp2_with fail
      refine HC.out.mono ?_
      rintro e w2 ⟨rfl, hb2⟩
      have HB2 := Lib.hid (HB.out.trans (hb2.mono HB.out.size))
      clear hb2
      go_wp2_with fail
      go_roundw
      case rel => exact ⟨k + 1, (o != q), by omega, rfl, by go_num, HV, HB2⟩
      case measure => simp [intOf]; omega
    · obtain rfl : k = n := by omega
      have HV : Hid (odd vs false kids = o) := Lib.hid (by have := HE.out; rw [List.take_of_length_le (by rw [HN.out]; exact Nat.le_refl _)] at this; exact this)
      go_wp2_with fail
      go_ret
      exact GivesV.mk' (by rw [HV.out]; rfl) HB.out
end
end Go.Proofs.YthnklohpmcebkaaGreatDoor
