/- By program out of: DelOdd, DelTold, DelPair, DelTolds. -/
import Derived.Test.YtomoemgoglghlaaGreatDoorMgpdffg
/-
  law03's helper Odd.
-/
set_option linter.unusedVariables false
set_option linter.unusedSimpArgs false
namespace Go.Proofs.YtomoemgoglghlaaGreatDoor
open Go.RowKit Rep

/-- A number with a delta as a law is handed it. -/
structure HD where
  s : Bool
  a1 : Option Addr
  c1 : Nat
  xs : List Nat
  a2 : Option Addr
  c2 : Nat
  ds : List Nat
  t : Bool
  b1 : Option Addr
  e1 : Nat
  ys : List Nat
  b2 : Option Addr
  e2 : Nat
  es : List Nat
def HD.ra (d : HD) : RawR := (d.s, (d.a1, d.xs.length, d.c1), (d.a2, d.ds.length, d.c2))
def HD.rb (d : HD) : RawR := (d.t, (d.b1, d.ys.length, d.e1), (d.b2, d.es.length, d.e2))
structure HandD (w : World) (d : HD) : Prop where
  a : HandR w d.a1 d.c1 d.xs d.a2 d.c2 d.ds
  b : HandR w d.b1 d.e1 d.ys d.b2 d.e2 d.es
theorem HandD.kept {w w' : World} {d : HD} (h : HandD w d) (hb : Below w.heap.size w w') : HandD w' d := ⟨h.a.kept hb, h.b.kept hb⟩
/-- Is one not in its one form, or more than is looked at? -/
def oddE (d : HD) : Bool := greatB [d.ra, d.rb] || !(rightB d.s d.xs d.ds && rightB d.t d.ys d.es)
/-- From block g's beginning on lie such numbers. -/
def Dels (w : World) (g : Nat) (ts : List HD) : Prop := ∀ k d, ts[k]? = some d →
  w.cell? ⟨g, k * 6, none⟩ = some (.bool d.s) ∧ w.cell? ⟨g, k * 6 + 1, none⟩ = some (.slice d.a1 d.xs.length d.c1) ∧ w.cell? ⟨g, k * 6 + 2, none⟩ = some (.slice d.a2 d.ds.length d.c2) ∧
  w.cell? ⟨g, k * 6 + 3, none⟩ = some (.bool d.t) ∧ w.cell? ⟨g, k * 6 + 4, none⟩ = some (.slice d.b1 d.ys.length d.e1) ∧ w.cell? ⟨g, k * 6 + 5, none⟩ = some (.slice d.b2 d.es.length d.e2)

set_option maxRecDepth 100000 in
set_option maxHeartbeats 4000000 in
theorem Odd_any (g c : Nat) (ts : List HD) (w : World) (hr : Dels w g ts) (hh : ∀ d ∈ ts, HandD w d) (hg : g < w.heap.size) (hl : ts.length ≤ 1000) :
    Calls Tryz.prog 53 #[.slice (some ⟨g, 0, none⟩) ts.length c] w (GivesB (ts.any oddE) w) := by
  go_enter Tryz.func53, Tryz.ntmps53
  go_wp2_with fail
  go_loopw [7] (fun i wr => ∃ k : Nat, k ≤ ts.length ∧ i = .int .i64 k ∧ Hid ((ts.take k).any oddE = false) ∧ Below w.heap.size w wr) (fun i _ => ts.length - (intOf i).toNat)
  case atStart => exact ⟨0, Nat.zero_le _, rfl, Lib.hid rfl, Below.refl _ _⟩
  case round =>
    obtain ⟨k, hk, rfl, HE, hb⟩ := hrel
    by_cases hlt : k < ts.length
    · obtain ⟨c0, c1, c2, c3, c4, c5⟩ := hr k ts[k] (List.getElem?_eq_getElem hlt)
      have HT : Hid (ts.take (k + 1) = ts.take k ++ [ts[k]]) := Lib.hid (List.take_succ_eq_append_getElem hlt)
      have HM : Hid (ts[k] ∈ ts) := Lib.hid (List.getElem_mem hlt)
      have HH := Lib.hid (hh ts[k] (List.getElem_mem hlt))
      generalize ts[k] = d at c0 c1 c2 c3 c4 c5 HT HM HH
      obtain ⟨s, a1, x1, xs, a2, x2, ds, t, b1, y1, ys, b2, y2, es⟩ := d
      dsimp only at c0 c1 c2 c3 c4 c5
      have d0 := (hb.cell (p := ⟨g, k * 6, none⟩) hg).trans c0
      have d1 := (hb.cell (p := ⟨g, k * 6 + 1, none⟩) hg).trans c1
      have d2 := (hb.cell (p := ⟨g, k * 6 + 2, none⟩) hg).trans c2
      have d3 := (hb.cell (p := ⟨g, k * 6 + 3, none⟩) hg).trans c3
      have d4 := (hb.cell (p := ⟨g, k * 6 + 4, none⟩) hg).trans c4
      have d5 := (hb.cell (p := ⟨g, k * 6 + 5, none⟩) hg).trans c5
      have HB := Lib.hid hb
      have hgr : g < wr.heap.size := World.block_lt_of_cell? _ _ d0
      have ha1 := (Below.refl wr.heap.size wr).alloc (Nat.le_refl _) (.cells #[.bool s, .slice a1 xs.length x1, .slice a2 ds.length x2, .bool t, .slice b1 ys.length y1, .slice b2 es.length y2] 70)
      have ha2 := ha1.alloc ha1.size (.cells #[.bool s, .slice a1 xs.length x1, .slice a2 ds.length x2, .bool t, .slice b1 ys.length y1, .slice b2 es.length y2] 27)
      have hbl : ((wr.alloc (.cells #[.bool s, .slice a1 xs.length x1, .slice a2 ds.length x2, .bool t, .slice b1 ys.length y1, .slice b2 es.length y2] 70)).alloc (.cells #[.bool s, .slice a1 xs.length x1, .slice a2 ds.length x2, .bool t, .slice b1 ys.length y1, .slice b2 es.length y2] 27)).heap[wr.heap.size]? = some (.cells #[.bool s, .slice a1 xs.length x1, .slice a2 ds.length x2, .bool t, .slice b1 ys.length y1, .slice b2 es.length y2] 70 (0, 0)) := by
        rw [Below.heap_alloc _ _ _ (by simp)]; exact heap_alloc_new wr _
      have HG : Hid (Calls Tryz.prog 11 #[.slice (some ⟨wr.heap.size + 1, 0, none⟩) 2 2] ((wr.alloc (.cells #[.bool s, .slice a1 xs.length x1, .slice a2 ds.length x2, .bool t, .slice b1 ys.length y1, .slice b2 es.length y2] 70)).alloc (.cells #[.bool s, .slice a1 xs.length x1, .slice a2 ds.length x2, .bool t, .slice b1 ys.length y1, .slice b2 es.length y2] 27)) (GivesB (greatB [(s, (a1, xs.length, x1), (a2, ds.length, x2)), (t, (b1, ys.length, y1), (b2, es.length, y2))]) ((wr.alloc (.cells #[.bool s, .slice a1 xs.length x1, .slice a2 ds.length x2, .bool t, .slice b1 ys.length y1, .slice b2 es.length y2] 70)).alloc (.cells #[.bool s, .slice a1 xs.length x1, .slice a2 ds.length x2, .bool t, .slice b1 ys.length y1, .slice b2 es.length y2] 27)))) := Lib.hid (by
        have hn := heap_alloc_new (wr.alloc (.cells #[.bool s, .slice a1 xs.length x1, .slice a2 ds.length x2, .bool t, .slice b1 ys.length y1, .slice b2 es.length y2] 70)) (.cells #[.bool s, .slice a1 xs.length x1, .slice a2 ds.length x2, .bool t, .slice b1 ys.length y1, .slice b2 es.length y2] 27)
        rw [World.size_alloc] at hn
        exact Great_any (wr.heap.size + 1) 2 [(s, (a1, xs.length, x1), (a2, ds.length, x2)), (t, (b1, ys.length, y1), (b2, es.length, y2))] _ (Rats.two hn) (by simp) (by simp))
      have HA2 := Lib.hid ha2
      have HBL := Lib.hid (fun W h => cells6 (stay (W := W) hbl h))
      clear hb c0 c1 c2 c3 c4 c5 hr hh ha1 ha2 hbl
      cases hgr2 : greatB [(s, (a1, xs.length, x1), (a2, ds.length, x2)), (t, (b1, ys.length, y1), (b2, es.length, y2))]
      case true =>
        have HV : Hid (ts.any oddE = true) := Lib.hid (List.any_eq_true.2 ⟨_, HM.out, by unfold oddE HD.ra HD.rb; dsimp only; rw [hgr2]; rfl⟩)
        rw [hgr2] at HG
        clear hgr2 HE HT HM
        go_wp2_with fail
        refine HG.out.mono ?_
        rintro e w3 ⟨rfl, h3⟩
        have HF := Lib.hid (HB.out.trans ((HA2.out.trans (h3.mono HA2.out.size)).mono HB.out.size))
        clear h3 HG
        go_wp2_with fail
        go_ret
        exact ⟨by rw [HV.out]; rfl, HF.out⟩
      case false =>
        obtain ⟨l1, l2, l3, l4⟩ := great_two hgr2
        rw [hgr2] at HG
        obtain ⟨p, hp⟩ : ∃ p, (rightB s xs ds && rightB t ys es) = p := ⟨_, rfl⟩
        have HRT : Hid (∀ W, Below wr.heap.size wr W → Calls Tryz.prog 105 #[.agg #[.bool s, .slice a1 xs.length x1, .slice a2 ds.length x2, .bool t, .slice b1 ys.length y1, .slice b2 es.length y2]] W (GotV wr (.bool p))) := Lib.hid fun W h => by
          rw [← hp]
          exact RightDD (((HH.out.kept HB.out).kept h).a) (((HH.out.kept HB.out).kept h).b) l1 l2 l3 l4 h
        have HOE : Hid (oddE ⟨s, a1, x1, xs, a2, x2, ds, t, b1, y1, ys, b2, y2, es⟩ = !p) := Lib.hid (by unfold oddE HD.ra HD.rb; dsimp only; rw [hgr2, hp]; rfl)
        clear hgr2 hp l1 l2 l3 l4 HH
        go_wp2_with fail
        refine HG.out.mono ?_
        rintro e w3 ⟨rfl, h3⟩
        have HF := Lib.hid (HA2.out.trans (h3.mono HA2.out.size))
        obtain ⟨k0, k1, k2, k3, k4, k5, _⟩ := HBL.out _ h3
        have HR3 := Lib.hid (HRT.out _ HF.out)
        clear h3 HG HBL HRT HA2
        cases p
        case false =>
          have HV : Hid (ts.any oddE = true) := Lib.hid (List.any_eq_true.2 ⟨_, HM.out, by rw [HOE.out]; rfl⟩)
          clear HE HT HM HOE
          go_wp2_with fail
          refine HR3.out.mono ?_
          rintro e w4 ⟨rfl, G4⟩
          have HF4 := Lib.hid (HB.out.trans (G4.out.mono HB.out.size))
          clear G4 HR3 HF
          go_wp2_with fail
          go_ret
          exact ⟨by rw [HV.out]; rfl, HF4.out⟩
        case true =>
          have HV : Hid ((ts.take (k + 1)).any oddE = false) := Lib.hid (by
            rw [HT.out, List.any_append, HE.out]
            simp [HOE.out])
          clear HE HT HM HOE
          go_wp2_with fail
          refine HR3.out.mono ?_
          rintro e w4 ⟨rfl, G4⟩
          have HF4 := Lib.hid (HB.out.trans (G4.out.mono HB.out.size))
          clear G4 HR3 HF
          go_wp2_with fail
          go_roundw
          case rel => exact ⟨k + 1, by omega, by go_num, HV, HF4.out⟩
          case measure => simp [intOf]; omega
    · obtain rfl : k = ts.length := by omega
      have HB := Lib.hid hb
      clear hb hr hh
      go_wp2_with fail
      go_ret
      exact ⟨by have := HE.out; rw [List.take_length] at this; rw [this]; rfl, HB.out⟩
end Go.Proofs.YtomoemgoglghlaaGreatDoor

/-
  law03's told: two blocks of six cells that float.
-/
set_option linter.unusedVariables false
set_option linter.unusedSimpArgs false
namespace Go.Proofs.YtomoemgoglghlaaGreatDoor
open Go.RowKit Rep


abbrev RawD := RawR × RawR
def c6 (v : RawD) : Array Value := #[.bool v.1.1, .slice v.1.2.1.1 v.1.2.1.2.1 v.1.2.1.2.2, .slice v.1.2.2.1 v.1.2.2.2.1 v.1.2.2.2.2, .bool v.2.1, .slice v.2.2.1.1 v.2.2.1.2.1 v.2.2.1.2.2, .slice v.2.2.2.1 v.2.2.2.2.1 v.2.2.2.2.2]
def put6 (W : World) (g : Nat) (v : RawD) : World := set6 W g v.1.1 (.slice v.1.2.1.1 v.1.2.1.2.1 v.1.2.1.2.2) (.slice v.1.2.2.1 v.1.2.2.2.1 v.1.2.2.2.2) v.2.1 (.slice v.2.2.1.1 v.2.2.1.2.1 v.2.2.1.2.2) (.slice v.2.2.2.1 v.2.2.2.2.1 v.2.2.2.2.2)
/-- Behind the closure's call. -/
structure R1 (W0 : World) (b m : Nat) (q r : Rat) (o : Bool) (x : RawD) (W : World) : Prop where
  vx : VQ q x.1 W
  ux : VQ r x.2 W
  bench : Bench W b m o
  below : Below W0.heap.size W0 W
  eb : b = W0.heap.size
/-- Behind both calls. -/
structure R2 (W0 : World) (b m : Nat) (q r : Rat) (o : Bool) (q' r' : Rat) (x y : RawD) (W : World) : Prop where
  one : R1 W0 b m q r o x W
  vy : VQ q' y.1 W
  uy : VQ r' y.2 W
section
variable {W0 W : World} {b m : Nat} {q r q' r' : Rat} {o : Bool} {x y : RawD}
theorem R1.kept {W' : World} (h : R1 W0 b m q r o x W) (hb : Below W.heap.size W W') : R1 W0 b m q r o x W' := ⟨h.vx.kept hb, h.ux.kept hb, h.bench.kept hb, h.below.trans (hb.mono h.below.size), h.eb⟩
theorem R2.kept {W' : World} (h : R2 W0 b m q r o q' r' x y W) (hb : Below W.heap.size W W') : R2 W0 b m q r o q' r' x y W' := ⟨h.one.kept hb, h.vy.kept hb, h.uy.kept hb⟩
theorem R2.alloc (h : R2 W0 b m q r o q' r' x y W) (ob : Obj) : R2 W0 b m q r o q' r' x y (W.alloc ob) := h.kept ((Below.refl _ _).alloc (Nat.le_refl _) _)
theorem R2.put6 {g : Nat} {ty : TypeId} (h : R2 W0 b m q r o q' r' x y W) (hb : Six W g ty) (hg : W0.heap.size < g) (v : RawD) : R2 W0 b m q r o q' r' x y (Go.Proofs.YtomoemgoglghlaaGreatDoor.put6 W g v) :=
  ⟨⟨h.one.vx.set6 hb _ _ _ _ _ _, h.one.ux.set6 hb _ _ _ _ _ _, h.one.bench.set6 (by have := h.one.eb; omega) _ _ _ _ _ _, set6_below h.one.below (by omega), h.one.eb⟩, h.vy.set6 hb _ _ _ _ _ _, h.uy.set6 hb _ _ _ _ _ _⟩
def Lies6 (v : RawD) (g : Nat) (W : World) : Prop := W.heap[g]? = some (.cells (c6 v) 70 (0, 0))
theorem Lies6.kept {v : RawD} {g : Nat} {W W' : World} (h : Lies6 v g W) (hb : Below W.heap.size W W') : Lies6 v g W' := (hb.block _ (Array.getElem?_eq_some_iff.1 h).1).trans h
theorem Lies6.new (v : RawD) (W : World) : Lies6 v W.heap.size (W.alloc (.cells (c6 v) 70)) := heap_alloc_new W _
theorem Lies6.alloc {v : RawD} {g : Nat} {W : World} (h : Lies6 v g W) (o : Obj) : Lies6 v g (W.alloc o) := h.kept ((Below.refl _ _).alloc (Nat.le_refl _) _)
theorem Lies6.put {g : Nat} {W : World} (h : Six W g 70) (v : RawD) : Lies6 v g (Go.Proofs.YtomoemgoglghlaaGreatDoor.put6 W g v) := by
  unfold Six at h
  simp [Lies6, c6, Go.Proofs.YtomoemgoglghlaaGreatDoor.put6, Go.Proofs.YtomoemgoglghlaaGreatDoor.set6, World.setCell, Array.getElem?_modify, h]
theorem Lies6.past {v : RawD} {g k : Nat} {W : World} (h : Lies6 v g W) (hne : g ≠ k) (u : RawD) : Lies6 v g (Go.Proofs.YtomoemgoglghlaaGreatDoor.put6 W k u) :=
  ((set6_grown W k _ _ _ _ _ _).block _ (Array.getElem?_eq_some_iff.1 h).1 (by simpa using hne)).trans h
theorem Six.past {g k : Nat} {W : World} {ty : TypeId} (h : Six W g ty) (hne : g ≠ k) (u : RawD) : Six (Go.Proofs.YtomoemgoglghlaaGreatDoor.put6 W k u) g ty :=
  ((set6_grown W k _ _ _ _ _ _).block _ (Array.getElem?_eq_some_iff.1 h).1 (by simpa using hne)).trans h
theorem Six.kept {W W' : World} {r : Nat} {ty : TypeId} (h : Six W r ty) (hb : Below W.heap.size W W') : Six W' r ty := stay h hb
/-- Behind the region: where both answers lie. -/
structure DAt2 (W0 : World) (b m : Nat) (q r : Rat) (o : Bool) (q' r' : Rat) (i : Nat × Nat × RawD × RawD) (W : World) : Prop where
  x : Lies6 i.2.2.1 i.1 W
  y : Lies6 i.2.2.2 i.2.1 W
  t : R2 W0 b m q r o q' r' i.2.2.1 i.2.2.2 W
theorem DAt2.split {i : Nat × Nat × RawD × RawD} (h : DAt2 W0 b m q r o q' r' i W) : ∃ W', W = W' ∧ DAt2 W0 b m q r o q' r' i W' := ⟨W, rfl, h⟩
theorem put6_size (W : World) (g : Nat) (v : RawD) : (Go.Proofs.YtomoemgoglghlaaGreatDoor.put6 W g v).heap.size = W.heap.size := set6_size W g _ _ _ _ _ _
theorem R2.end0a (h : R2 W0 b m q r o q' r' x y W) : DAt2 W0 b m q r o q' r' (W.heap.size, W.heap.size + 1, x, y) ((W.alloc (.cells (c6 x) 70)).alloc (.cells (c6 y) 70)) :=
  ⟨(Lies6.new x W).alloc _, by simpa using Lies6.new y (W.alloc (.cells (c6 x) 70)), (h.alloc _).alloc _⟩
theorem R2.end0b (h : R2 W0 b m q r o q' r' x y W) : DAt2 W0 b m q r o q' r' (W.heap.size + 1, W.heap.size, x, y) ((W.alloc (.cells (c6 y) 70)).alloc (.cells (c6 x) 70)) :=
  ⟨by simpa using Lies6.new x (W.alloc (.cells (c6 y) 70)), (Lies6.new y W).alloc _, (h.alloc _).alloc _⟩
theorem R2.end1a {g : Nat} (h : R2 W0 b m q r o q' r' x y W) (hb : Six W g 70) (hg : W0.heap.size < g) : DAt2 W0 b m q r o q' r' (g, W.heap.size, x, y) ((Go.Proofs.YtomoemgoglghlaaGreatDoor.put6 W g x).alloc (.cells (c6 y) 70)) :=
  ⟨(Lies6.put hb x).alloc _, by have := Lies6.new y (Go.Proofs.YtomoemgoglghlaaGreatDoor.put6 W g x); rwa [put6_size] at this, (h.put6 hb hg _).alloc _⟩
theorem R2.end1b {g : Nat} (h : R2 W0 b m q r o q' r' x y W) (hb : Six W g 70) (hg : W0.heap.size < g) : DAt2 W0 b m q r o q' r' (W.heap.size, g, x, y) ((Go.Proofs.YtomoemgoglghlaaGreatDoor.put6 W g y).alloc (.cells (c6 x) 70)) :=
  ⟨by have := Lies6.new x (Go.Proofs.YtomoemgoglghlaaGreatDoor.put6 W g y); rwa [put6_size] at this, (Lies6.put hb y).alloc _, (h.put6 hb hg _).alloc _⟩
theorem R2.end2 {g k : Nat} (h : R2 W0 b m q r o q' r' x y W) (hb : Six W g 70) (hk : Six W k 70) (hne : g ≠ k) (hg : W0.heap.size < g) (hg2 : W0.heap.size < k) :
    DAt2 W0 b m q r o q' r' (g, k, x, y) (Go.Proofs.YtomoemgoglghlaaGreatDoor.put6 (Go.Proofs.YtomoemgoglghlaaGreatDoor.put6 W g x) k y) :=
  ⟨(Lies6.put hb x).past hne _, Lies6.put (hk.past (Ne.symm hne) _) y, (h.put6 hb hg _).put6 (hk.past (Ne.symm hne) _) hg2 _⟩
end
theorem R1.lt {W0 W : World} {b m : Nat} {q r : Rat} {o : Bool} {x : RawD} (h : R1 W0 b m q r o x W) : W0.heap.size < W.heap.size := by have := h.bench.lt; have := h.eb; omega
theorem six_second {W : World} (wa : World) (h : Below ((wa.alloc (.cells #[.bool false, .slice none 0 0, .slice none 0 0, .bool false, .slice none 0 0, .slice none 0 0] 70)).alloc (.cells #[.bool false, .slice none 0 0, .slice none 0 0, .bool false, .slice none 0 0, .slice none 0 0] 70)).heap.size ((wa.alloc (.cells #[.bool false, .slice none 0 0, .slice none 0 0, .bool false, .slice none 0 0, .slice none 0 0] 70)).alloc (.cells #[.bool false, .slice none 0 0, .slice none 0 0, .bool false, .slice none 0 0, .slice none 0 0] 70)) W) : Six W (wa.heap.size + 1) 70 := by
  refine Six.kept ?_ h
  have := heap_alloc_new (wa.alloc (.cells #[.bool false, .slice none 0 0, .slice none 0 0, .bool false, .slice none 0 0, .slice none 0 0] 70)) (.cells #[.bool false, .slice none 0 0, .slice none 0 0, .bool false, .slice none 0 0, .slice none 0 0] 70)
  simpa [Six] using this
theorem six_ne {W : World} {g : Nat} {ty : TypeId} (h : Six W g ty) : g ≠ W.heap.size ∧ W.heap.size ≠ g ∧ g < W.heap.size := by
  have := (Array.getElem?_eq_some_iff.1 h).1
  omega
/-- The closure's call, in any world of the region. -/
theorem dtold_do {w W0 w1 W : World} {b m : Nat} {q r : Rat} {o : Bool} {f : FuncId} {p1 p2 : Value} (hw : Below w.heap.size w W0) (eb : b = W0.heap.size) (hb : Bench w1 b m false) (h1 : Below W0.heap.size W0 w1)
    (hdo : ∀ (W : World) (b : Nat), Below w.heap.size w W → Bench W b m false → w.heap.size ≤ b → Calls Tryz.prog f #[.pointer (some ⟨b, 0, none⟩), p1, p2] W (GivesQQ b m o q r W)) (hW : Below w1.heap.size w1 W) :
    Calls Tryz.prog f #[.pointer (some ⟨b, 0, none⟩), p1, p2] W fun e W' => ∃ s z1 m1 k1 z2 m2 k2 t y1 n1 j1 y2 n2 j2, e = .returned (.agg #[.bool s, .slice z1 m1 k1, .slice z2 m2 k2, .bool t, .slice y1 n1 j1, .slice y2 n2 j2]) ∧
      Hid (R1 W0 b m (if o = true then 0 else q) (if o = true then 0 else r) o ((s, (z1, m1, k1), (z2, m2, k2)), (t, (y1, n1, j1), (y2, n2, j2))) W') ∧ Hid (W.grownBy W' (some b)) := by
  have hB : Below W0.heap.size W0 W := h1.trans (hW.mono h1.size)
  refine (hdo W b (hw.trans (hB.mono hw.size)) (hb.kept hW) (by have := hw.size; omega)).mono ?_
  rintro e W' ⟨s, z1, m1, k1, z2, m2, k2, t, y1, n1, j1, y2, n2, j2, rfl, h1, h2, h3, h4⟩
  exact ⟨s, z1, m1, k1, z2, m2, k2, t, y1, n1, j1, y2, n2, j2, rfl, Lib.hid ⟨h1.out, h2.out, h3.out, hB.grown h4.out hB.size (fun k hk => by cases hk; omega), eb⟩, h4⟩
/-- The document's form, behind it. -/
theorem dtold_form {W0 w3 W : World} {b m : Nat} {q r q' r' : Rat} {o : Bool} {x : RawD} {xs us : Bool} {xa xb ua ub : Option Addr} {xl xc xk xe ul uc uk ue : Nat} (h : R1 W0 b m q r o x w3) (hx : VD q' (xs, (xa, xl, xc), (xb, xk, xe)) W0) (hu : VD r' (us, (ua, ul, uc), (ub, uk, ue)) W0) (zq : szQ q' ≤ 100) (zr : szQ r' ≤ 100) (hW : Below w3.heap.size w3 W) :
    Calls Tryz.prog 106 #[.agg #[.bool xs, .slice xa xl xc, .slice xb xk xe, .bool us, .slice ua ul uc, .slice ub uk ue]] W fun e W' => ∃ s z1 m1 k1 z2 m2 k2 t y1 n1 j1 y2 n2 j2, e = .returned (.agg #[.bool s, .slice z1 m1 k1, .slice z2 m2 k2, .bool t, .slice y1 n1 j1, .slice y2 n2 j2]) ∧
      Hid (R2 W0 b m q r o q' r' x ((s, (z1, m1, k1), (z2, m2, k2)), (t, (y1, n1, j1), (y2, n2, j2))) W') ∧ Hid (Below W.heap.size W W') := by
  have h' := h.kept hW
  refine (FormDD (hx.kept h'.below) (hu.kept h'.below) zq zr (Below.refl W.heap.size W)).mono ?_
  rintro e W' ⟨s, z1, m1, k1, z2, m2, k2, t, y1, n1, j1, y2, n2, j2, rfl, h1, h2, h3⟩
  exact ⟨s, z1, m1, k1, z2, m2, k2, t, y1, n1, j1, y2, n2, j2, rfl, Lib.hid ⟨h'.kept h1.out, h2.out, h3.out⟩, h1⟩
theorem far1 {w W0 W : World} (h : w.heap.size < W0.heap.size) (hb : Below W0.heap.size W0 W) : w.heap.size ≠ W.heap.size ∧ W.heap.size ≠ w.heap.size ∧ w.heap.size ≠ W.heap.size + 1 ∧ W.heap.size + 1 ≠ w.heap.size := by
  have := hb.size
  omega
theorem new_for3 (n : Int) (h : n ≤ 9223372036854775807) : ∃ m : Nat, 1 ≤ m ∧ m ≤ maxLen ∧ max n 1 = (m : Int) ∧ ∀ w, Calls Tryz.prog 41 #[.int .i64 n] w (GivesBench m w) := new_for n h
theorem fitsQ {W5 W : World} {q : Rat} {s : Bool} {z1 z2 : Option Addr} {m1 k1 m2 k2 m : Nat} (h : VQ q (s, (z1, m1, k1), (z2, m2, k2)) W) (hq : szQ q ≤ 100) (hm : m ≤ maxLen) (W' : World) (hb : Below W5.heap.size W5 W') {o : Bool} (ho : ovQ m q = o) :
    Calls Tryz.prog 48 #[.agg #[.bool s, .slice z1 m1 k1, .slice z2 m2 k2], .int .i64 (m : Int)] W' (GotV W5 (.bool (!o))) := by
  obtain ⟨e0, e1, e2, _⟩ := h
  dsimp only at e0 e1 e2
  subst e0 e1 e2 ho
  unfold szQ at hq
  unfold maxLen at hm
  exact (Fits_any (w := W') (s := ngQ q) (a1 := z1) (a2 := z2) (l1 := (L (mgQ q)).length) (c1 := k1) (l2 := (L (denN q.den)).length) (c2 := k2) (m := m) (by omega) (by omega) (by omega)).mono fun e W'' hg => ⟨hg.1, Lib.hid (hb.trans (hg.2.mono hb.size))⟩
end Go.Proofs.YtomoemgoglghlaaGreatDoor

/-
  Two of the document's numbers with a delta, in blocks that float.
-/
set_option linter.unusedVariables false
set_option linter.unusedSimpArgs false
namespace Go.Proofs.YtomoemgoglghlaaGreatDoor
open Go.RowKit Rep


/-- Behind the first call. -/
structure E1 (W0 : World) (q r : Rat) (x : RawD) (W : World) : Prop where
  vx : VD q x.1 W
  ux : VD r x.2 W
  below : Below W0.heap.size W0 W
/-- Behind both calls. -/
structure E2 (W0 : World) (q r q' r' : Rat) (x y : RawD) (W : World) : Prop where
  one : E1 W0 q r x W
  vy : VD q' y.1 W
  uy : VD r' y.2 W
section
variable {W0 W : World} {q r q' r' : Rat} {x y : RawD}
theorem E1.kept {W' : World} (h : E1 W0 q r x W) (hb : Below W.heap.size W W') : E1 W0 q r x W' := ⟨h.vx.kept hb, h.ux.kept hb, h.below.trans (hb.mono h.below.size)⟩
theorem E2.kept {W' : World} (h : E2 W0 q r q' r' x y W) (hb : Below W.heap.size W W') : E2 W0 q r q' r' x y W' := ⟨h.one.kept hb, h.vy.kept hb, h.uy.kept hb⟩
theorem E2.alloc (h : E2 W0 q r q' r' x y W) (ob : Obj) : E2 W0 q r q' r' x y (W.alloc ob) := h.kept ((Below.refl _ _).alloc (Nat.le_refl _) _)
theorem E2.put6 {g : Nat} {ty : TypeId} (h : E2 W0 q r q' r' x y W) (hb : Six W g ty) (hg : W0.heap.size ≤ g) (v : RawD) : E2 W0 q r q' r' x y (Go.Proofs.YtomoemgoglghlaaGreatDoor.put6 W g v) :=
  ⟨⟨h.one.vx.set6 hb _ _ _ _ _ _, h.one.ux.set6 hb _ _ _ _ _ _, set6_below h.one.below hg⟩, h.vy.set6 hb _ _ _ _ _ _, h.uy.set6 hb _ _ _ _ _ _⟩
def LiesE (v : RawD) (g : Nat) (W : World) : Prop := W.heap[g]? = some (.cells (c6 v) 73 (0, 0))
theorem LiesE.kept {v : RawD} {g : Nat} {W W' : World} (h : LiesE v g W) (hb : Below W.heap.size W W') : LiesE v g W' := (hb.block _ (Array.getElem?_eq_some_iff.1 h).1).trans h
theorem LiesE.new (v : RawD) (W : World) : LiesE v W.heap.size (W.alloc (.cells (c6 v) 73)) := heap_alloc_new W _
theorem LiesE.alloc {v : RawD} {g : Nat} {W : World} (h : LiesE v g W) (o : Obj) : LiesE v g (W.alloc o) := h.kept ((Below.refl _ _).alloc (Nat.le_refl _) _)
theorem LiesE.put {g : Nat} {W : World} (h : Six W g 73) (v : RawD) : LiesE v g (Go.Proofs.YtomoemgoglghlaaGreatDoor.put6 W g v) := by
  unfold Six at h
  simp [LiesE, c6, Go.Proofs.YtomoemgoglghlaaGreatDoor.put6, Go.Proofs.YtomoemgoglghlaaGreatDoor.set6, World.setCell, Array.getElem?_modify, h]
theorem LiesE.past {v : RawD} {g k : Nat} {W : World} (h : LiesE v g W) (hne : g ≠ k) (u : RawD) : LiesE v g (Go.Proofs.YtomoemgoglghlaaGreatDoor.put6 W k u) :=
  ((set6_grown W k _ _ _ _ _ _).block _ (Array.getElem?_eq_some_iff.1 h).1 (by simpa using hne)).trans h
structure EAt (W0 : World) (q r q' r' : Rat) (i : Nat × Nat × RawD × RawD) (W : World) : Prop where
  x : LiesE i.2.2.1 i.1 W
  y : LiesE i.2.2.2 i.2.1 W
  t : E2 W0 q r q' r' i.2.2.1 i.2.2.2 W
theorem EAt.split {i : Nat × Nat × RawD × RawD} (h : EAt W0 q r q' r' i W) : ∃ W', W = W' ∧ EAt W0 q r q' r' i W' := ⟨W, rfl, h⟩
theorem E2.end0a (h : E2 W0 q r q' r' x y W) : EAt W0 q r q' r' (W.heap.size, W.heap.size + 1, x, y) ((W.alloc (.cells (c6 x) 73)).alloc (.cells (c6 y) 73)) :=
  ⟨(LiesE.new x W).alloc _, by simpa using LiesE.new y (W.alloc (.cells (c6 x) 73)), (h.alloc _).alloc _⟩
theorem E2.end0b (h : E2 W0 q r q' r' x y W) : EAt W0 q r q' r' (W.heap.size + 1, W.heap.size, x, y) ((W.alloc (.cells (c6 y) 73)).alloc (.cells (c6 x) 73)) :=
  ⟨by simpa using LiesE.new x (W.alloc (.cells (c6 y) 73)), (LiesE.new y W).alloc _, (h.alloc _).alloc _⟩
theorem E2.end1a {g : Nat} (h : E2 W0 q r q' r' x y W) (hb : Six W g 73) (hg : W0.heap.size ≤ g) : EAt W0 q r q' r' (g, W.heap.size, x, y) ((Go.Proofs.YtomoemgoglghlaaGreatDoor.put6 W g x).alloc (.cells (c6 y) 73)) :=
  ⟨(LiesE.put hb x).alloc _, by have := LiesE.new y (Go.Proofs.YtomoemgoglghlaaGreatDoor.put6 W g x); rwa [put6_size] at this, (h.put6 hb hg _).alloc _⟩
theorem E2.end1b {g : Nat} (h : E2 W0 q r q' r' x y W) (hb : Six W g 73) (hg : W0.heap.size ≤ g) : EAt W0 q r q' r' (W.heap.size, g, x, y) ((Go.Proofs.YtomoemgoglghlaaGreatDoor.put6 W g y).alloc (.cells (c6 x) 73)) :=
  ⟨by have := LiesE.new x (Go.Proofs.YtomoemgoglghlaaGreatDoor.put6 W g y); rwa [put6_size] at this, (LiesE.put hb y).alloc _, (h.put6 hb hg _).alloc _⟩
theorem E2.end2 {g k : Nat} (h : E2 W0 q r q' r' x y W) (hb : Six W g 73) (hk : Six W k 73) (hne : g ≠ k) (hg : W0.heap.size ≤ g) (hg2 : W0.heap.size ≤ k) :
    EAt W0 q r q' r' (g, k, x, y) (Go.Proofs.YtomoemgoglghlaaGreatDoor.put6 (Go.Proofs.YtomoemgoglghlaaGreatDoor.put6 W g x) k y) :=
  ⟨(LiesE.put hb x).past hne _, LiesE.put (hk.past (Ne.symm hne) _) y, (h.put6 hb hg _).put6 (hk.past (Ne.symm hne) _) hg2 _⟩
end
theorem sixE_second {W : World} (wa : World) (h : Below ((wa.alloc (.cells #[.bool false, .slice none 0 0, .slice none 0 0, .bool false, .slice none 0 0, .slice none 0 0] 73)).alloc (.cells #[.bool false, .slice none 0 0, .slice none 0 0, .bool false, .slice none 0 0, .slice none 0 0] 73)).heap.size ((wa.alloc (.cells #[.bool false, .slice none 0 0, .slice none 0 0, .bool false, .slice none 0 0, .slice none 0 0] 73)).alloc (.cells #[.bool false, .slice none 0 0, .slice none 0 0, .bool false, .slice none 0 0, .slice none 0 0] 73)) W) : Six W (wa.heap.size + 1) 73 := by
  refine Six.kept ?_ h
  have := heap_alloc_new (wa.alloc (.cells #[.bool false, .slice none 0 0, .slice none 0 0, .bool false, .slice none 0 0, .slice none 0 0] 73)) (.cells #[.bool false, .slice none 0 0, .slice none 0 0, .bool false, .slice none 0 0, .slice none 0 0] 73)
  simpa [Six] using this
theorem far3 {w W0 W : World} (h : w.heap.size + 1 + 1 < W0.heap.size) (hb : Below W0.heap.size W0 W) : w.heap.size ≠ W.heap.size ∧ W.heap.size ≠ w.heap.size ∧ w.heap.size ≠ W.heap.size + 1 ∧ W.heap.size + 1 ≠ w.heap.size ∧ w.heap.size + 1 ≠ W.heap.size ∧ W.heap.size ≠ w.heap.size + 1 ∧ w.heap.size + 1 ≠ W.heap.size + 1 ∧ W.heap.size + 1 ≠ w.heap.size + 1 ∧ w.heap.size + 1 + 1 ≠ W.heap.size ∧ W.heap.size ≠ w.heap.size + 1 + 1 ∧ w.heap.size + 1 + 1 ≠ W.heap.size + 1 ∧ W.heap.size + 1 ≠ w.heap.size + 1 + 1 := by
  have := hb.size
  omega
theorem ofE_first {W0 W : World} {s t : Bool} {a1 a2 b1 b2 : Option Addr} {l1 c1 l2 c2 n1 e1 n2 e2 : Nat} {q r : Rat} (hq : VQ q (s, (a1, l1, c1), (a2, l2, c2)) W0) (hr : VQ r (t, (b1, n1, e1), (b2, n2, e2)) W0) (zq : szQ q ≤ 100) (zr : szQ r ≤ 100) (hb : Below W0.heap.size W0 W) :
    Calls Tryz.prog 54 #[.agg #[.bool s, .slice a1 l1 c1, .slice a2 l2 c2, .bool t, .slice b1 n1 e1, .slice b2 n2 e2]] W fun e W' => ∃ s z1 m1 k1 z2 m2 k2 t y1 n1 j1 y2 n2 j2, e = .returned (.agg #[.bool s, .slice z1 m1 k1, .slice z2 m2 k2, .bool t, .slice y1 n1 j1, .slice y2 n2 j2]) ∧
      Hid (E1 W0 q r ((s, (z1, m1, k1), (z2, m2, k2)), (t, (y1, n1, j1), (y2, n2, j2))) W') ∧ Hid (Below W.heap.size W W') := by
  refine (OfDD (hq.kept hb) (hr.kept hb) zq zr (Below.refl W.heap.size W)).mono ?_
  rintro e W' ⟨s, z1, m1, k1, z2, m2, k2, t, y1, n1, j1, y2, n2, j2, rfl, h1, h2, h3⟩
  exact ⟨s, z1, m1, k1, z2, m2, k2, t, y1, n1, j1, y2, n2, j2, rfl, Lib.hid ⟨h2.out, h3.out, hb.trans (h1.out.mono hb.size)⟩, h1⟩
theorem ofE_second {W0 W3 W : World} {s t : Bool} {a1 a2 b1 b2 : Option Addr} {l1 c1 l2 c2 n1 e1 n2 e2 : Nat} {q r q' r' : Rat} {x : RawD} (hd : E1 W0 q r x W3) (hq : VQ q' (s, (a1, l1, c1), (a2, l2, c2)) W0) (hr : VQ r' (t, (b1, n1, e1), (b2, n2, e2)) W0) (zq : szQ q' ≤ 100) (zr : szQ r' ≤ 100) (hW : Below W3.heap.size W3 W) :
    Calls Tryz.prog 54 #[.agg #[.bool s, .slice a1 l1 c1, .slice a2 l2 c2, .bool t, .slice b1 n1 e1, .slice b2 n2 e2]] W fun e W' => ∃ s z1 m1 k1 z2 m2 k2 t y1 n1 j1 y2 n2 j2, e = .returned (.agg #[.bool s, .slice z1 m1 k1, .slice z2 m2 k2, .bool t, .slice y1 n1 j1, .slice y2 n2 j2]) ∧
      Hid (E2 W0 q r q' r' x ((s, (z1, m1, k1), (z2, m2, k2)), (t, (y1, n1, j1), (y2, n2, j2))) W') ∧ Hid (Below W.heap.size W W') := by
  have hd' := hd.kept hW
  refine (OfDD (hq.kept hd'.below) (hr.kept hd'.below) zq zr (Below.refl W.heap.size W)).mono ?_
  rintro e W' ⟨s, z1, m1, k1, z2, m2, k2, t, y1, n1, j1, y2, n2, j2, rfl, h1, h2, h3⟩
  exact ⟨s, z1, m1, k1, z2, m2, k2, t, y1, n1, j1, y2, n2, j2, rfl, Lib.hid ⟨hd'.kept h1.out, h2.out, h3.out⟩, h1⟩
end Go.Proofs.YtomoemgoglghlaaGreatDoor

/-
  law03's told, with closure 1.
-/
set_option linter.unusedVariables false
set_option linter.unusedSimpArgs false
namespace Go.Proofs.YtomoemgoglghlaaGreatDoor
open Go.RowKit Rep


set_option maxRecDepth 100000 in
set_option maxHeartbeats 16000000 in
theorem told03_1 {w : World} {n : Int} {q r : Rat} {cv cu : Value} {xs us : Bool} {xa xb ua ub : Option Addr} {xl xc xk xe ul uc uk ue : Nat} (hn : n ≤ 9223372036854775807) (hx : VD q (xs, (xa, xl, xc), (xb, xk, xe)) w) (hu : VD r (us, (ua, ul, uc), (ub, uk, ue)) w) (zq : szQ q ≤ 100) (zr : szQ r ≤ 100)
    (hdo : ∀ (m : Nat) (W : World) (b : Nat), m ≤ maxLen → Below w.heap.size w W → Bench W b m false → w.heap.size ≤ b → Calls Tryz.prog 56 #[.pointer (some ⟨b, 0, none⟩), cv, cu] W (GivesQQ b m (ovQ m q || ovQ m r) q r W)) :
    Calls Tryz.prog 55 #[.int .i64 n, .func (.func 56) #[] #[cv, cu], .agg #[.bool xs, .slice xa xl xc, .slice xb xk xe, .bool us, .slice ua ul uc, .slice ub uk ue]] w (Holds w) := by
  obtain ⟨m, hm1, hm2, hmx, hnew⟩ := new_for n hn
  have hdo2 := fun W b => hdo m W b hm2
  obtain ⟨W0, hW0⟩ : ∃ W0, W0 = w.alloc (.cells #[.bool xs, .slice xa xl xc, .slice xb xk xe, .bool us, .slice ua ul uc, .slice ub uk ue] 73) := ⟨_, rfl⟩
  have hB0 : Below w.heap.size w W0 := by rw [hW0]; exact (Below.refl _ _).alloc (Nat.le_refl _) _
  have hk0 : W0.heap[w.heap.size]? = some (.cells #[.bool xs, .slice xa xl xc, .slice xb xk xe, .bool us, .slice ua ul uc, .slice ub uk ue] 73 (0, 0)) := by rw [hW0]; exact heap_alloc_new w _
  have HNEW : Hid (Calls Tryz.prog 41 #[.int .i64 n] W0 (fun e w1 => e = .returned (.pointer (some ⟨W0.heap.size, 0, none⟩)) ∧ Bench w1 W0.heap.size m false ∧ Below W0.heap.size W0 w1)) := Lib.hid ((hnew W0).mono (by
    rintro e w1 ⟨rfl, rfl⟩
    exact ⟨rfl, GivesBench.bench, (Below.refl _ _).alloc (Nat.le_refl _) _⟩))
  have HK : Hid (∀ W, Below W0.heap.size W0 W → (W.cell? ⟨w.heap.size, 0, none⟩ = some (.bool xs) ∧ W.cell? ⟨w.heap.size, 1, none⟩ = some (.slice xa xl xc) ∧ W.cell? ⟨w.heap.size, 2, none⟩ = some (.slice xb xk xe) ∧ W.cell? ⟨w.heap.size, 3, none⟩ = some (.bool us) ∧ W.cell? ⟨w.heap.size, 4, none⟩ = some (.slice ua ul uc) ∧ W.cell? ⟨w.heap.size, 5, none⟩ = some (.slice ub uk ue))) := Lib.hid fun W h => by
    obtain ⟨f0, f1, f2, f3, f4, f5, _⟩ := cells6 (stay hk0 h)
    exact ⟨f0, f1, f2, f3, f4, f5⟩
  have HWL : Hid (w.heap.size < W0.heap.size) := Lib.hid (Array.getElem?_eq_some_iff.1 hk0).1
  obtain ⟨oA, hoA⟩ : ∃ o, ovQ m q = o := ⟨_, rfl⟩
  obtain ⟨oB, hoB⟩ : ∃ o, ovQ m r = o := ⟨_, rfl⟩
  rw [hoA, hoB] at hdo2
  have HW0 := Lib.hid hW0
  have HX := Lib.hid (hx.kept hB0)
  have HU := Lib.hid (hu.kept hB0)
  have HZ := Lib.hid (And.intro zq zr)
  have HDO := Lib.hid hdo2
  have HB := Lib.hid hB0
  have HM := Lib.hid hm2
  have HOA := Lib.hid hoA
  have HOB := Lib.hid hoB
  obtain ⟨p0, p1, p2, p3, p4, p5⟩ := HK.out W0 (Below.refl _ _)
  clear hW0 hB0 hk0 hx hu hdo hdo2 hnew hm1 hm2 zq zr hoA hoB
  go_enter Tryz.func55, Tryz.ntmps55
  go_wp2_with fail
  rw [← HW0.out]
  refine HNEW.out.mono ?_
  rintro e w1 ⟨rfl, hbe, hb1⟩
  obtain ⟨p0, p1, p2, p3, p4, p5⟩ := HK.out w1 hb1
  have hlt : W0.heap.size < w1.heap.size := hbe.lt
  obtain ⟨z0, z1, z2, z3⟩ := far1 HWL.out hb1
  have hne1 : w1.heap.size ≠ W0.heap.size := by omega
  have hne2 : w1.heap.size + 1 ≠ W0.heap.size := by omega
  have hgt2 : W0.heap.size < w1.heap.size + 1 := by omega
  have HDA := Lib.hid (dtold_do (w1 := w1) HB.out rfl hbe hb1 HDO.out (below_drew w1))
  have HDB := Lib.hid (dtold_do (w1 := w1) HB.out rfl hbe hb1 HDO.out (show Below w1.heap.size w1 (w1.alloc (.cells #[.bool false, .slice none 0 0, .slice none 0 0, .bool false, .slice none 0 0, .slice none 0 0] 70)).drew from Below.drewN' ((Below.refl w1.heap.size w1).alloc (Nat.le_refl _) (.cells #[.bool false, .slice none 0 0, .slice none 0 0, .bool false, .slice none 0 0, .slice none 0 0] 70)) 1))
  have HDC := Lib.hid (dtold_do (w1 := w1) HB.out rfl hbe hb1 HDO.out (show Below w1.heap.size w1 ((w1.alloc (.cells #[.bool false, .slice none 0 0, .slice none 0 0, .bool false, .slice none 0 0, .slice none 0 0] 70)).alloc (.cells #[.bool false, .slice none 0 0, .slice none 0 0, .bool false, .slice none 0 0, .slice none 0 0] 70)).drew from Below.drewN' (((Below.refl w1.heap.size w1).alloc (Nat.le_refl _) (.cells #[.bool false, .slice none 0 0, .slice none 0 0, .bool false, .slice none 0 0, .slice none 0 0] 70)).alloc (by simp) (.cells #[.bool false, .slice none 0 0, .slice none 0 0, .bool false, .slice none 0 0, .slice none 0 0] 70)) 1))
  have HZB : Hid (Six (w1.alloc (.cells #[.bool false, .slice none 0 0, .slice none 0 0, .bool false, .slice none 0 0, .slice none 0 0] 70)).drew w1.heap.size 70) := Lib.hid (heap_alloc_new w1 _)
  have HZC : Hid (Six ((w1.alloc (.cells #[.bool false, .slice none 0 0, .slice none 0 0, .bool false, .slice none 0 0, .slice none 0 0] 70)).alloc (.cells #[.bool false, .slice none 0 0, .slice none 0 0, .bool false, .slice none 0 0, .slice none 0 0] 70)).drew w1.heap.size 70 ∧ Six ((w1.alloc (.cells #[.bool false, .slice none 0 0, .slice none 0 0, .bool false, .slice none 0 0, .slice none 0 0] 70)).alloc (.cells #[.bool false, .slice none 0 0, .slice none 0 0, .bool false, .slice none 0 0, .slice none 0 0] 70)).drew (w1.heap.size + 1) 70) := Lib.hid (by
    refine ⟨?_, ?_⟩
    · exact Six.kept (heap_alloc_new w1 _) (Below.drewN' ((Below.refl _ _).alloc (Nat.le_refl _) (.cells #[.bool false, .slice none 0 0, .slice none 0 0, .bool false, .slice none 0 0, .slice none 0 0] 70)) 1)
    · have := heap_alloc_new (w1.alloc (.cells #[.bool false, .slice none 0 0, .slice none 0 0, .bool false, .slice none 0 0, .slice none 0 0] 70)) (.cells #[.bool false, .slice none 0 0, .slice none 0 0, .bool false, .slice none 0 0, .slice none 0 0] 70)
      simpa [Six, World.drew] using this)
  have HE1 : Hid (w1.heap.size ≠ w1.heap.size + 1) := Lib.hid (by omega)
  clear hbe hb1 HDO HNEW HW0
  go_wp2_with fail
  refine wp_region_ex (ι := Nat × Nat × RawD × RawD) (fun i => [(13, .func (.func 56) #[] #[cv, cu]), (14, .pointer (some ⟨W0.heap.size, 0, none⟩)), (15, .agg #[.bool i.2.2.1.1.1, .slice i.2.2.1.1.2.1.1 i.2.2.1.1.2.1.2.1 i.2.2.1.1.2.1.2.2, .slice i.2.2.1.1.2.2.1 i.2.2.1.1.2.2.2.1 i.2.2.1.1.2.2.2.2, .bool i.2.2.1.2.1, .slice i.2.2.1.2.2.1.1 i.2.2.1.2.2.1.2.1 i.2.2.1.2.2.1.2.2, .slice i.2.2.1.2.2.2.1 i.2.2.1.2.2.2.2.1 i.2.2.1.2.2.2.2.2]), (16, .agg #[.bool xs, .slice xa xl xc, .slice xb xk xe, .bool us, .slice ua ul uc, .slice ub uk ue]), (17, .agg #[.bool i.2.2.2.1.1, .slice i.2.2.2.1.2.1.1 i.2.2.2.1.2.1.2.1 i.2.2.2.1.2.1.2.2, .slice i.2.2.2.1.2.2.1 i.2.2.2.1.2.2.2.1 i.2.2.2.1.2.2.2.2, .bool i.2.2.2.2.1, .slice i.2.2.2.2.2.1.1 i.2.2.2.2.2.1.2.1 i.2.2.2.2.2.1.2.2, .slice i.2.2.2.2.2.2.1 i.2.2.2.2.2.2.2.1 i.2.2.2.2.2.2.2.2]), (18, .int .i64 n), (19, .int .i64 (m : Int)), (8, .pointer (some ⟨i.1, 0, none⟩)), (9, .pointer (some ⟨i.2.1, 0, none⟩)), (10, .int .i64 (m : Int))]) (DAt2 W0 W0.heap.size m (if (oA || oB) = true then 0 else q) (if (oA || oB) = true then 0 else r) (oA || oB) q r) ?region ?rest
  case region =>
    refine wp_region_held_drew (S := (fun w' => w'.cell? ⟨w.heap.size, 0, none⟩ = some (.bool xs) ∧ w'.cell? ⟨w.heap.size, 1, none⟩ = some (.slice xa xl xc) ∧ w'.cell? ⟨w.heap.size, 2, none⟩ = some (.slice xb xk xe) ∧ w'.cell? ⟨w.heap.size, 3, none⟩ = some (.bool us) ∧ w'.cell? ⟨w.heap.size, 4, none⟩ = some (.slice ua ul uc) ∧ w'.cell? ⟨w.heap.size, 5, none⟩ = some (.slice ub uk ue))) (by kernel_rfl) ?_ (fun hHeld => ?_)
    · exact ⟨p0, p1, p2, p3, p4, p5⟩
    refine wpAnyH_take (i := 0) (v := ?_) (by rfl) (by kernel_rfl) (by kernel_rfl) (by kernel_rfl) (by exact fun _ _ _ h => h) (Or.inl ⟨by rfl, ?_⟩) hHeld ?_
    rotate_left 1
    · intro w' hSw
      go_simp
      try with_reducible rfl
    try simp only [Act.put, List.setIfInBounds_toArray, List.set_cons_zero, List.set_cons_succ, List.getElem_toArray, List.getElem_cons_zero, List.getElem_cons_succ]
    refine wpAnyH_take (i := 1) (v := ?_) (by rfl) (by kernel_rfl) (by kernel_rfl) (by kernel_rfl) (by exact fun _ _ _ h => h) (Or.inl ⟨by rfl, ?_⟩) hHeld ?_
    rotate_left 1
    · intro w' hSw
      go_simp
      try with_reducible rfl
    try simp only [Act.put, List.setIfInBounds_toArray, List.set_cons_zero, List.set_cons_succ, List.getElem_toArray, List.getElem_cons_zero, List.getElem_cons_succ]
    refine wpAnyH_take (i := 3) (v := ?_) (by rfl) (by kernel_rfl) (by kernel_rfl) (by kernel_rfl) (by exact fun _ _ _ h => h) (Or.inl ⟨by rfl, ?_⟩) hHeld ?_
    rotate_left 1
    · intro w' hSw
      go_simp
      try with_reducible rfl
    try simp only [Act.put, List.setIfInBounds_toArray, List.set_cons_zero, List.set_cons_succ, List.getElem_toArray, List.getElem_cons_zero, List.getElem_cons_succ]
    refine wpAnyH_take (i := 5) (v := ?_) (by rfl) (by kernel_rfl) (by kernel_rfl) (by kernel_rfl) (by exact fun _ _ _ h => h) (Or.inl ⟨by rfl, ?_⟩) hHeld ?_
    rotate_left 1
    · intro w' hSw
      go_simp
      try with_reducible rfl
    try simp only [Act.put, List.setIfInBounds_toArray, List.set_cons_zero, List.set_cons_succ, List.getElem_toArray, List.getElem_cons_zero, List.getElem_cons_succ]
    refine wpAnyH_take (i := 6) (v := ?_) (by rfl) (by kernel_rfl) (by kernel_rfl) (by kernel_rfl) (by exact fun _ _ _ h => h) (Or.inl ⟨by rfl, ?_⟩) hHeld ?_
    rotate_left 1
    · intro w' hSw
      go_simp
      try with_reducible rfl
    try simp only [Act.put, List.setIfInBounds_toArray, List.set_cons_zero, List.set_cons_succ, List.getElem_toArray, List.getElem_cons_zero, List.getElem_cons_succ]
    refine wpAnyH_ready (rs := [2, 7, 8]) (by kernel_rfl) (by simp) ?_
    refine AllReadyH.cons (by rfl) (fun K hK => ?_) ?_
    · go_simp
      (with_reducible refine HDA.out.mono ?_); rintro e wa ⟨s, z1, m1, k1, z2, m2, k2, t, y1, n1, j1, y2, n2, j2, rfl, HTA, HGA⟩; have hpa := HTA.out.below; obtain ⟨q0, q1, q2, q3, q4, q5⟩ := HK.out _ hpa; obtain ⟨u0, u1, u2, u3⟩ := far1 HWL.out hpa
      refine hK.out _ _ ?_ (fun hHeld => ?_)
      · (try dsimp only); first | with_reducible exact HK.out _ hp4 | with_reducible exact HK.out _ hpc | with_reducible exact HK.out _ hpb | with_reducible exact HK.out _ hpa | go_keep
      clear hK K
      try simp only [Act.put, List.setIfInBounds_toArray, List.set_cons_zero, List.set_cons_succ, List.getElem_toArray, List.getElem_cons_zero, List.getElem_cons_succ]
      refine wpAnyH_ready (rs := [4, 7, 8]) (by kernel_rfl) (by simp) ?_
      refine AllReadyH.cons (by rfl) (fun K hK => ?_) ?_
      · go_simp
        (with_reducible refine (dtold_form HTA.out HX.out HU.out HZ.out.1 HZ.out.2 (Below.refl _ _)).mono ?_); rintro e w4 ⟨s', f1, f2, f3, f4, f5, f6, t', d1, d2, d3, d4, d5, d6, rfl, H2, HG4⟩; have hp4 := H2.out.one.below; obtain ⟨r0, r1, r2, r3, r4, r5⟩ := HK.out _ hp4; obtain ⟨o0, o1, o2, o3⟩ := far1 HWL.out hp4; have hf1 := H2.out.end0a; have hf2 := H2.out.end0b; dsimp only [Go.Proofs.YtomoemgoglghlaaGreatDoor.put6, Go.Proofs.YtomoemgoglghlaaGreatDoor.set6, c6] at hf1 hf2; obtain ⟨WA, hWA, hf3⟩ := hf1.split; obtain ⟨WB, hWB, hf4⟩ := hf2.split; have HF1 := Lib.hid hf3; have HF2 := Lib.hid hf4; have HWA := Lib.hid hWA; have HWB := Lib.hid hWB; clear hf1 hf2 hf3 hf4 hWA hWB
        refine hK.out _ _ ?_ (fun hHeld => ?_)
        · (try dsimp only); first | with_reducible exact HK.out _ hp4 | with_reducible exact HK.out _ hpc | with_reducible exact HK.out _ hpb | with_reducible exact HK.out _ hpa | go_keep
        clear hK K
        try simp only [Act.put, List.setIfInBounds_toArray, List.set_cons_zero, List.set_cons_succ, List.getElem_toArray, List.getElem_cons_zero, List.getElem_cons_succ]
        refine wpAnyH_ready (rs := [7, 8]) (by kernel_rfl) (by simp) ?_
        refine AllReadyH.cons (by rfl) (fun K hK => ?_) ?_
        · go_simp
          refine hK.out _ _ ?_ (fun hHeld => ?_)
          · (try dsimp only); first | with_reducible exact HK.out _ hp4 | with_reducible exact HK.out _ hpc | with_reducible exact HK.out _ hpb | with_reducible exact HK.out _ hpa | go_keep
          clear hK K
          try simp only [Act.put, List.setIfInBounds_toArray, List.set_cons_zero, List.set_cons_succ, List.getElem_toArray, List.getElem_cons_zero, List.getElem_cons_succ]
          refine wpAnyH_ready (rs := [8]) (by kernel_rfl) (by simp) ?_
          refine AllReadyH.cons (by rfl) (fun K hK => ?_) ?_
          · go_simp
            refine hK.out _ _ ?_ (fun hHeld => ?_)
            · (try dsimp only); first | with_reducible exact HK.out _ hp4 | with_reducible exact HK.out _ hpc | with_reducible exact HK.out _ hpb | with_reducible exact HK.out _ hpa | go_keep
            clear hK K
            try simp only [Act.put, List.setIfInBounds_toArray, List.set_cons_zero, List.set_cons_succ, List.getElem_toArray, List.getElem_cons_zero, List.getElem_cons_succ]
            refine wpAnyH_ready (rs := [9]) (by kernel_rfl) (by simp) ?_
            refine AllReadyH.cons (by rfl) (fun K hK => ?_) ?_
            · go_simp
              refine hK.out _ _ ?_ (fun hHeld => ?_)
              · (try dsimp only); first | with_reducible exact HK.out _ hp4 | with_reducible exact HK.out _ hpc | with_reducible exact HK.out _ hpb | with_reducible exact HK.out _ hpa | go_keep
              clear hK K
              try simp only [Act.put, List.setIfInBounds_toArray, List.set_cons_zero, List.set_cons_succ, List.getElem_toArray, List.getElem_cons_zero, List.getElem_cons_succ]
              refine wpAnyH_ready (rs := [10]) (by kernel_rfl) (by simp) ?_
              refine AllReadyH.cons (by rfl) (fun K hK => ?_) ?_
              · go_simp
                refine hK.out _ _ ?_ (fun hHeld => ?_)
                · (try dsimp only); first | with_reducible exact HK.out _ hp4 | with_reducible exact HK.out _ hpc | with_reducible exact HK.out _ hpb | with_reducible exact HK.out _ hpa | go_keep
                clear hK K
                try simp only [Act.put, List.setIfInBounds_toArray, List.set_cons_zero, List.set_cons_succ, List.getElem_toArray, List.getElem_cons_zero, List.getElem_cons_succ]
                refine wpAnyH_take (i := 11) (v := ?_) (by rfl) (by kernel_rfl) (by kernel_rfl) (by kernel_rfl) (by exact fun _ _ _ h => h) (Or.inl ⟨by rfl, ?_⟩) hHeld ?_
                rotate_left 1
                · intro w' hSw
                  go_simp
                  try with_reducible rfl
                try simp only [Act.put, List.setIfInBounds_toArray, List.set_cons_zero, List.set_cons_succ, List.getElem_toArray, List.getElem_cons_zero, List.getElem_cons_succ]
                refine wpAnyH_done (by kernel_rfl) ?_ _
                refine OnlyEx.mk' ?_
                simp only [HWA.out, HWB.out]
                first
                  | (with_reducible refine ⟨_, ?_, HF1.out⟩; simp only [puts, Act.put, List.setIfInBounds_toArray, List.set_cons_zero, List.set_cons_succ]; done)
                  | (with_reducible refine ⟨_, ?_, HF2.out⟩; simp only [puts, Act.put, List.setIfInBounds_toArray, List.set_cons_zero, List.set_cons_succ]; done)
              exact AllReadyH.nil
            exact AllReadyH.nil
          exact AllReadyH.nil
        refine AllReadyH.cons (by rfl) (fun K hK => ?_) ?_
        · go_simp
          refine hK.out _ _ ?_ (fun hHeld => ?_)
          · (try dsimp only); first | with_reducible exact HK.out _ hp4 | with_reducible exact HK.out _ hpc | with_reducible exact HK.out _ hpb | with_reducible exact HK.out _ hpa | go_keep
          clear hK K
          try simp only [Act.put, List.setIfInBounds_toArray, List.set_cons_zero, List.set_cons_succ, List.getElem_toArray, List.getElem_cons_zero, List.getElem_cons_succ]
          refine wpAnyH_ready (rs := [7]) (by kernel_rfl) (by simp) ?_
          refine AllReadyH.cons (by rfl) (fun K hK => ?_) ?_
          · go_simp
            refine hK.out _ _ ?_ (fun hHeld => ?_)
            · (try dsimp only); first | with_reducible exact HK.out _ hp4 | with_reducible exact HK.out _ hpc | with_reducible exact HK.out _ hpb | with_reducible exact HK.out _ hpa | go_keep
            clear hK K
            try simp only [Act.put, List.setIfInBounds_toArray, List.set_cons_zero, List.set_cons_succ, List.getElem_toArray, List.getElem_cons_zero, List.getElem_cons_succ]
            refine wpAnyH_ready (rs := [9]) (by kernel_rfl) (by simp) ?_
            refine AllReadyH.cons (by rfl) (fun K hK => ?_) ?_
            · go_simp
              refine hK.out _ _ ?_ (fun hHeld => ?_)
              · (try dsimp only); first | with_reducible exact HK.out _ hp4 | with_reducible exact HK.out _ hpc | with_reducible exact HK.out _ hpb | with_reducible exact HK.out _ hpa | go_keep
              clear hK K
              try simp only [Act.put, List.setIfInBounds_toArray, List.set_cons_zero, List.set_cons_succ, List.getElem_toArray, List.getElem_cons_zero, List.getElem_cons_succ]
              refine wpAnyH_ready (rs := [10]) (by kernel_rfl) (by simp) ?_
              refine AllReadyH.cons (by rfl) (fun K hK => ?_) ?_
              · go_simp
                refine hK.out _ _ ?_ (fun hHeld => ?_)
                · (try dsimp only); first | with_reducible exact HK.out _ hp4 | with_reducible exact HK.out _ hpc | with_reducible exact HK.out _ hpb | with_reducible exact HK.out _ hpa | go_keep
                clear hK K
                try simp only [Act.put, List.setIfInBounds_toArray, List.set_cons_zero, List.set_cons_succ, List.getElem_toArray, List.getElem_cons_zero, List.getElem_cons_succ]
                refine wpAnyH_take (i := 11) (v := ?_) (by rfl) (by kernel_rfl) (by kernel_rfl) (by kernel_rfl) (by exact fun _ _ _ h => h) (Or.inl ⟨by rfl, ?_⟩) hHeld ?_
                rotate_left 1
                · intro w' hSw
                  go_simp
                  try with_reducible rfl
                try simp only [Act.put, List.setIfInBounds_toArray, List.set_cons_zero, List.set_cons_succ, List.getElem_toArray, List.getElem_cons_zero, List.getElem_cons_succ]
                refine wpAnyH_done (by kernel_rfl) ?_ _
                refine OnlyEx.mk' ?_
                simp only [HWA.out, HWB.out]
                first
                  | (with_reducible refine ⟨_, ?_, HF1.out⟩; simp only [puts, Act.put, List.setIfInBounds_toArray, List.set_cons_zero, List.set_cons_succ]; done)
                  | (with_reducible refine ⟨_, ?_, HF2.out⟩; simp only [puts, Act.put, List.setIfInBounds_toArray, List.set_cons_zero, List.set_cons_succ]; done)
              exact AllReadyH.nil
            exact AllReadyH.nil
          exact AllReadyH.nil
        exact AllReadyH.nil
      refine AllReadyH.cons (by rfl) (fun K hK => ?_) ?_
      · go_simp
        refine hK.out _ _ ?_ (fun hHeld => ?_)
        · (try dsimp only); first | with_reducible exact HK.out _ hp4 | with_reducible exact HK.out _ hpc | with_reducible exact HK.out _ hpb | with_reducible exact HK.out _ hpa | go_keep
        clear hK K
        try simp only [Act.put, List.setIfInBounds_toArray, List.set_cons_zero, List.set_cons_succ, List.getElem_toArray, List.getElem_cons_zero, List.getElem_cons_succ]
        refine wpAnyH_ready (rs := [4, 8]) (by kernel_rfl) (by simp) ?_
        refine AllReadyH.cons (by rfl) (fun K hK => ?_) ?_
        · go_simp
          (with_reducible refine (dtold_form HTA.out HX.out HU.out HZ.out.1 HZ.out.2 ((Below.refl wa.heap.size wa).alloc (Nat.le_refl _) (.cells #[.bool false, .slice none 0 0, .slice none 0 0, .bool false, .slice none 0 0, .slice none 0 0] 70))).mono ?_); rintro e w4 ⟨s', f1, f2, f3, f4, f5, f6, t', d1, d2, d3, d4, d5, d6, rfl, H2, HG4⟩; have hp4 := H2.out.one.below; obtain ⟨r0, r1, r2, r3, r4, r5⟩ := HK.out _ hp4; obtain ⟨o0, o1, o2, o3⟩ := far1 HWL.out hp4; have HX1 := Lib.hid (Six.kept (ty := 70) (heap_alloc_new wa _) HG4.out); have hf1 := (H2.out.end1a HX1.out HTA.out.lt); have hf2 := (H2.out.end1b HX1.out HTA.out.lt); dsimp only [Go.Proofs.YtomoemgoglghlaaGreatDoor.put6, Go.Proofs.YtomoemgoglghlaaGreatDoor.set6, c6] at hf1 hf2; obtain ⟨WA, hWA, hf3⟩ := hf1.split; obtain ⟨WB, hWB, hf4⟩ := hf2.split; have HF1 := Lib.hid hf3; have HF2 := Lib.hid hf4; have HWA := Lib.hid hWA; have HWB := Lib.hid hWB; clear hf1 hf2 hf3 hf4 hWA hWB; obtain ⟨g0, g1, g2, g3, g4, g5, g6, g7, g8, g9, g10, g11⟩ := cells6 HX1.out; obtain ⟨v0, v1, v2⟩ := six_ne HX1.out
          refine hK.out _ _ ?_ (fun hHeld => ?_)
          · (try dsimp only); first | with_reducible exact HK.out _ hp4 | with_reducible exact HK.out _ hpc | with_reducible exact HK.out _ hpb | with_reducible exact HK.out _ hpa | go_keep
          clear hK K
          try simp only [Act.put, List.setIfInBounds_toArray, List.set_cons_zero, List.set_cons_succ, List.getElem_toArray, List.getElem_cons_zero, List.getElem_cons_succ]
          refine wpAnyH_ready (rs := [8]) (by kernel_rfl) (by simp) ?_
          refine AllReadyH.cons (by rfl) (fun K hK => ?_) ?_
          · go_simp
            refine hK.out _ _ ?_ (fun hHeld => ?_)
            · (try dsimp only); first | with_reducible exact HK.out _ hp4 | with_reducible exact HK.out _ hpc | with_reducible exact HK.out _ hpb | with_reducible exact HK.out _ hpa | go_keep
            clear hK K
            try simp only [Act.put, List.setIfInBounds_toArray, List.set_cons_zero, List.set_cons_succ, List.getElem_toArray, List.getElem_cons_zero, List.getElem_cons_succ]
            refine wpAnyH_ready (rs := [9]) (by kernel_rfl) (by simp) ?_
            refine AllReadyH.cons (by rfl) (fun K hK => ?_) ?_
            · go_simp
              refine hK.out _ _ ?_ (fun hHeld => ?_)
              · (try dsimp only); first | with_reducible exact HK.out _ hp4 | with_reducible exact HK.out _ hpc | with_reducible exact HK.out _ hpb | with_reducible exact HK.out _ hpa | go_keep
              clear hK K
              try simp only [Act.put, List.setIfInBounds_toArray, List.set_cons_zero, List.set_cons_succ, List.getElem_toArray, List.getElem_cons_zero, List.getElem_cons_succ]
              refine wpAnyH_ready (rs := [10]) (by kernel_rfl) (by simp) ?_
              refine AllReadyH.cons (by rfl) (fun K hK => ?_) ?_
              · go_simp
                refine hK.out _ _ ?_ (fun hHeld => ?_)
                · (try dsimp only); first | with_reducible exact HK.out _ hp4 | with_reducible exact HK.out _ hpc | with_reducible exact HK.out _ hpb | with_reducible exact HK.out _ hpa | go_keep
                clear hK K
                try simp only [Act.put, List.setIfInBounds_toArray, List.set_cons_zero, List.set_cons_succ, List.getElem_toArray, List.getElem_cons_zero, List.getElem_cons_succ]
                refine wpAnyH_take (i := 11) (v := ?_) (by rfl) (by kernel_rfl) (by kernel_rfl) (by kernel_rfl) (by exact fun _ _ _ h => h) (Or.inl ⟨by rfl, ?_⟩) hHeld ?_
                rotate_left 1
                · intro w' hSw
                  go_simp
                  try with_reducible rfl
                try simp only [Act.put, List.setIfInBounds_toArray, List.set_cons_zero, List.set_cons_succ, List.getElem_toArray, List.getElem_cons_zero, List.getElem_cons_succ]
                refine wpAnyH_done (by kernel_rfl) ?_ _
                refine OnlyEx.mk' ?_
                simp only [HWA.out, HWB.out]
                first
                  | (with_reducible refine ⟨_, ?_, HF1.out⟩; simp only [puts, Act.put, List.setIfInBounds_toArray, List.set_cons_zero, List.set_cons_succ]; done)
                  | (with_reducible refine ⟨_, ?_, HF2.out⟩; simp only [puts, Act.put, List.setIfInBounds_toArray, List.set_cons_zero, List.set_cons_succ]; done)
              exact AllReadyH.nil
            exact AllReadyH.nil
          exact AllReadyH.nil
        refine AllReadyH.cons (by rfl) (fun K hK => ?_) ?_
        · go_simp
          refine hK.out _ _ ?_ (fun hHeld => ?_)
          · (try dsimp only); first | with_reducible exact HK.out _ hp4 | with_reducible exact HK.out _ hpc | with_reducible exact HK.out _ hpb | with_reducible exact HK.out _ hpa | go_keep
          clear hK K
          try simp only [Act.put, List.setIfInBounds_toArray, List.set_cons_zero, List.set_cons_succ, List.getElem_toArray, List.getElem_cons_zero, List.getElem_cons_succ]
          refine wpAnyH_ready (rs := [4]) (by kernel_rfl) (by simp) ?_
          refine AllReadyH.cons (by rfl) (fun K hK => ?_) ?_
          · go_simp
            (with_reducible refine (dtold_form HTA.out HX.out HU.out HZ.out.1 HZ.out.2 (((Below.refl wa.heap.size wa).alloc (Nat.le_refl _) (.cells #[.bool false, .slice none 0 0, .slice none 0 0, .bool false, .slice none 0 0, .slice none 0 0] 70)).alloc (by simp) (.cells #[.bool false, .slice none 0 0, .slice none 0 0, .bool false, .slice none 0 0, .slice none 0 0] 70))).mono ?_); rintro e w4 ⟨s', f1, f2, f3, f4, f5, f6, t', d1, d2, d3, d4, d5, d6, rfl, H2, HG4⟩; have hp4 := H2.out.one.below; obtain ⟨r0, r1, r2, r3, r4, r5⟩ := HK.out _ hp4; obtain ⟨o0, o1, o2, o3⟩ := far1 HWL.out hp4; have HX1 := Lib.hid (Six.kept (Six.kept (ty := 70) (heap_alloc_new wa _) ((Below.refl _ _).alloc (Nat.le_refl _) _)) HG4.out); have HX2 := Lib.hid (six_second wa HG4.out); have hf1 := (H2.out.end2 HX1.out HX2.out (Nat.ne_of_lt (Nat.lt_succ_self _)) HTA.out.lt (Nat.lt_succ_of_lt HTA.out.lt)); have hf2 := (H2.out.end2 HX2.out HX1.out (Nat.ne_of_gt (Nat.lt_succ_self _)) (Nat.lt_succ_of_lt HTA.out.lt) HTA.out.lt); dsimp only [Go.Proofs.YtomoemgoglghlaaGreatDoor.put6, Go.Proofs.YtomoemgoglghlaaGreatDoor.set6, c6] at hf1 hf2; obtain ⟨WA, hWA, hf3⟩ := hf1.split; obtain ⟨WB, hWB, hf4⟩ := hf2.split; have HF1 := Lib.hid hf3; have HF2 := Lib.hid hf4; have HWA := Lib.hid hWA; have HWB := Lib.hid hWB; clear hf1 hf2 hf3 hf4 hWA hWB; obtain ⟨g0, g1, g2, g3, g4, g5, g6, g7, g8, g9, g10, g11⟩ := cells6 HX1.out; obtain ⟨i0, i1, i2, i3, i4, i5, i6, i7, i8, i9, i10, i11⟩ := cells6 HX2.out
            refine hK.out _ _ ?_ (fun hHeld => ?_)
            · (try dsimp only); first | with_reducible exact HK.out _ hp4 | with_reducible exact HK.out _ hpc | with_reducible exact HK.out _ hpb | with_reducible exact HK.out _ hpa | go_keep
            clear hK K
            try simp only [Act.put, List.setIfInBounds_toArray, List.set_cons_zero, List.set_cons_succ, List.getElem_toArray, List.getElem_cons_zero, List.getElem_cons_succ]
            refine wpAnyH_ready (rs := [9]) (by kernel_rfl) (by simp) ?_
            refine AllReadyH.cons (by rfl) (fun K hK => ?_) ?_
            · go_simp
              refine hK.out _ _ ?_ (fun hHeld => ?_)
              · (try dsimp only); first | with_reducible exact HK.out _ hp4 | with_reducible exact HK.out _ hpc | with_reducible exact HK.out _ hpb | with_reducible exact HK.out _ hpa | go_keep
              clear hK K
              try simp only [Act.put, List.setIfInBounds_toArray, List.set_cons_zero, List.set_cons_succ, List.getElem_toArray, List.getElem_cons_zero, List.getElem_cons_succ]
              refine wpAnyH_ready (rs := [10]) (by kernel_rfl) (by simp) ?_
              refine AllReadyH.cons (by rfl) (fun K hK => ?_) ?_
              · go_simp
                refine hK.out _ _ ?_ (fun hHeld => ?_)
                · (try dsimp only); first | with_reducible exact HK.out _ hp4 | with_reducible exact HK.out _ hpc | with_reducible exact HK.out _ hpb | with_reducible exact HK.out _ hpa | go_keep
                clear hK K
                try simp only [Act.put, List.setIfInBounds_toArray, List.set_cons_zero, List.set_cons_succ, List.getElem_toArray, List.getElem_cons_zero, List.getElem_cons_succ]
                refine wpAnyH_take (i := 11) (v := ?_) (by rfl) (by kernel_rfl) (by kernel_rfl) (by kernel_rfl) (by exact fun _ _ _ h => h) (Or.inl ⟨by rfl, ?_⟩) hHeld ?_
                rotate_left 1
                · intro w' hSw
                  go_simp
                  try with_reducible rfl
                try simp only [Act.put, List.setIfInBounds_toArray, List.set_cons_zero, List.set_cons_succ, List.getElem_toArray, List.getElem_cons_zero, List.getElem_cons_succ]
                refine wpAnyH_done (by kernel_rfl) ?_ _
                refine OnlyEx.mk' ?_
                simp only [HWA.out, HWB.out]
                first
                  | (with_reducible refine ⟨_, ?_, HF1.out⟩; simp only [puts, Act.put, List.setIfInBounds_toArray, List.set_cons_zero, List.set_cons_succ]; done)
                  | (with_reducible refine ⟨_, ?_, HF2.out⟩; simp only [puts, Act.put, List.setIfInBounds_toArray, List.set_cons_zero, List.set_cons_succ]; done)
              exact AllReadyH.nil
            exact AllReadyH.nil
          exact AllReadyH.nil
        exact AllReadyH.nil
      refine AllReadyH.cons (by rfl) (fun K hK => ?_) ?_
      · go_simp
        refine hK.out _ _ ?_ (fun hHeld => ?_)
        · (try dsimp only); first | with_reducible exact HK.out _ hp4 | with_reducible exact HK.out _ hpc | with_reducible exact HK.out _ hpb | with_reducible exact HK.out _ hpa | go_keep
        clear hK K
        try simp only [Act.put, List.setIfInBounds_toArray, List.set_cons_zero, List.set_cons_succ, List.getElem_toArray, List.getElem_cons_zero, List.getElem_cons_succ]
        refine wpAnyH_ready (rs := [4, 7]) (by kernel_rfl) (by simp) ?_
        refine AllReadyH.cons (by rfl) (fun K hK => ?_) ?_
        · go_simp
          (with_reducible refine (dtold_form HTA.out HX.out HU.out HZ.out.1 HZ.out.2 ((Below.refl wa.heap.size wa).alloc (Nat.le_refl _) (.cells #[.bool false, .slice none 0 0, .slice none 0 0, .bool false, .slice none 0 0, .slice none 0 0] 70))).mono ?_); rintro e w4 ⟨s', f1, f2, f3, f4, f5, f6, t', d1, d2, d3, d4, d5, d6, rfl, H2, HG4⟩; have hp4 := H2.out.one.below; obtain ⟨r0, r1, r2, r3, r4, r5⟩ := HK.out _ hp4; obtain ⟨o0, o1, o2, o3⟩ := far1 HWL.out hp4; have HX1 := Lib.hid (Six.kept (ty := 70) (heap_alloc_new wa _) HG4.out); have hf1 := (H2.out.end1a HX1.out HTA.out.lt); have hf2 := (H2.out.end1b HX1.out HTA.out.lt); dsimp only [Go.Proofs.YtomoemgoglghlaaGreatDoor.put6, Go.Proofs.YtomoemgoglghlaaGreatDoor.set6, c6] at hf1 hf2; obtain ⟨WA, hWA, hf3⟩ := hf1.split; obtain ⟨WB, hWB, hf4⟩ := hf2.split; have HF1 := Lib.hid hf3; have HF2 := Lib.hid hf4; have HWA := Lib.hid hWA; have HWB := Lib.hid hWB; clear hf1 hf2 hf3 hf4 hWA hWB; obtain ⟨g0, g1, g2, g3, g4, g5, g6, g7, g8, g9, g10, g11⟩ := cells6 HX1.out; obtain ⟨v0, v1, v2⟩ := six_ne HX1.out
          refine hK.out _ _ ?_ (fun hHeld => ?_)
          · (try dsimp only); first | with_reducible exact HK.out _ hp4 | with_reducible exact HK.out _ hpc | with_reducible exact HK.out _ hpb | with_reducible exact HK.out _ hpa | go_keep
          clear hK K
          try simp only [Act.put, List.setIfInBounds_toArray, List.set_cons_zero, List.set_cons_succ, List.getElem_toArray, List.getElem_cons_zero, List.getElem_cons_succ]
          refine wpAnyH_ready (rs := [7]) (by kernel_rfl) (by simp) ?_
          refine AllReadyH.cons (by rfl) (fun K hK => ?_) ?_
          · go_simp
            refine hK.out _ _ ?_ (fun hHeld => ?_)
            · (try dsimp only); first | with_reducible exact HK.out _ hp4 | with_reducible exact HK.out _ hpc | with_reducible exact HK.out _ hpb | with_reducible exact HK.out _ hpa | go_keep
            clear hK K
            try simp only [Act.put, List.setIfInBounds_toArray, List.set_cons_zero, List.set_cons_succ, List.getElem_toArray, List.getElem_cons_zero, List.getElem_cons_succ]
            refine wpAnyH_ready (rs := [9]) (by kernel_rfl) (by simp) ?_
            refine AllReadyH.cons (by rfl) (fun K hK => ?_) ?_
            · go_simp
              refine hK.out _ _ ?_ (fun hHeld => ?_)
              · (try dsimp only); first | with_reducible exact HK.out _ hp4 | with_reducible exact HK.out _ hpc | with_reducible exact HK.out _ hpb | with_reducible exact HK.out _ hpa | go_keep
              clear hK K
              try simp only [Act.put, List.setIfInBounds_toArray, List.set_cons_zero, List.set_cons_succ, List.getElem_toArray, List.getElem_cons_zero, List.getElem_cons_succ]
              refine wpAnyH_ready (rs := [10]) (by kernel_rfl) (by simp) ?_
              refine AllReadyH.cons (by rfl) (fun K hK => ?_) ?_
              · go_simp
                refine hK.out _ _ ?_ (fun hHeld => ?_)
                · (try dsimp only); first | with_reducible exact HK.out _ hp4 | with_reducible exact HK.out _ hpc | with_reducible exact HK.out _ hpb | with_reducible exact HK.out _ hpa | go_keep
                clear hK K
                try simp only [Act.put, List.setIfInBounds_toArray, List.set_cons_zero, List.set_cons_succ, List.getElem_toArray, List.getElem_cons_zero, List.getElem_cons_succ]
                refine wpAnyH_take (i := 11) (v := ?_) (by rfl) (by kernel_rfl) (by kernel_rfl) (by kernel_rfl) (by exact fun _ _ _ h => h) (Or.inl ⟨by rfl, ?_⟩) hHeld ?_
                rotate_left 1
                · intro w' hSw
                  go_simp
                  try with_reducible rfl
                try simp only [Act.put, List.setIfInBounds_toArray, List.set_cons_zero, List.set_cons_succ, List.getElem_toArray, List.getElem_cons_zero, List.getElem_cons_succ]
                refine wpAnyH_done (by kernel_rfl) ?_ _
                refine OnlyEx.mk' ?_
                simp only [HWA.out, HWB.out]
                first
                  | (with_reducible refine ⟨_, ?_, HF1.out⟩; simp only [puts, Act.put, List.setIfInBounds_toArray, List.set_cons_zero, List.set_cons_succ]; done)
                  | (with_reducible refine ⟨_, ?_, HF2.out⟩; simp only [puts, Act.put, List.setIfInBounds_toArray, List.set_cons_zero, List.set_cons_succ]; done)
              exact AllReadyH.nil
            exact AllReadyH.nil
          exact AllReadyH.nil
        refine AllReadyH.cons (by rfl) (fun K hK => ?_) ?_
        · go_simp
          refine hK.out _ _ ?_ (fun hHeld => ?_)
          · (try dsimp only); first | with_reducible exact HK.out _ hp4 | with_reducible exact HK.out _ hpc | with_reducible exact HK.out _ hpb | with_reducible exact HK.out _ hpa | go_keep
          clear hK K
          try simp only [Act.put, List.setIfInBounds_toArray, List.set_cons_zero, List.set_cons_succ, List.getElem_toArray, List.getElem_cons_zero, List.getElem_cons_succ]
          refine wpAnyH_ready (rs := [4]) (by kernel_rfl) (by simp) ?_
          refine AllReadyH.cons (by rfl) (fun K hK => ?_) ?_
          · go_simp
            (with_reducible refine (dtold_form HTA.out HX.out HU.out HZ.out.1 HZ.out.2 (((Below.refl wa.heap.size wa).alloc (Nat.le_refl _) (.cells #[.bool false, .slice none 0 0, .slice none 0 0, .bool false, .slice none 0 0, .slice none 0 0] 70)).alloc (by simp) (.cells #[.bool false, .slice none 0 0, .slice none 0 0, .bool false, .slice none 0 0, .slice none 0 0] 70))).mono ?_); rintro e w4 ⟨s', f1, f2, f3, f4, f5, f6, t', d1, d2, d3, d4, d5, d6, rfl, H2, HG4⟩; have hp4 := H2.out.one.below; obtain ⟨r0, r1, r2, r3, r4, r5⟩ := HK.out _ hp4; obtain ⟨o0, o1, o2, o3⟩ := far1 HWL.out hp4; have HX1 := Lib.hid (Six.kept (Six.kept (ty := 70) (heap_alloc_new wa _) ((Below.refl _ _).alloc (Nat.le_refl _) _)) HG4.out); have HX2 := Lib.hid (six_second wa HG4.out); have hf1 := (H2.out.end2 HX1.out HX2.out (Nat.ne_of_lt (Nat.lt_succ_self _)) HTA.out.lt (Nat.lt_succ_of_lt HTA.out.lt)); have hf2 := (H2.out.end2 HX2.out HX1.out (Nat.ne_of_gt (Nat.lt_succ_self _)) (Nat.lt_succ_of_lt HTA.out.lt) HTA.out.lt); dsimp only [Go.Proofs.YtomoemgoglghlaaGreatDoor.put6, Go.Proofs.YtomoemgoglghlaaGreatDoor.set6, c6] at hf1 hf2; obtain ⟨WA, hWA, hf3⟩ := hf1.split; obtain ⟨WB, hWB, hf4⟩ := hf2.split; have HF1 := Lib.hid hf3; have HF2 := Lib.hid hf4; have HWA := Lib.hid hWA; have HWB := Lib.hid hWB; clear hf1 hf2 hf3 hf4 hWA hWB; obtain ⟨g0, g1, g2, g3, g4, g5, g6, g7, g8, g9, g10, g11⟩ := cells6 HX1.out; obtain ⟨i0, i1, i2, i3, i4, i5, i6, i7, i8, i9, i10, i11⟩ := cells6 HX2.out
            refine hK.out _ _ ?_ (fun hHeld => ?_)
            · (try dsimp only); first | with_reducible exact HK.out _ hp4 | with_reducible exact HK.out _ hpc | with_reducible exact HK.out _ hpb | with_reducible exact HK.out _ hpa | go_keep
            clear hK K
            try simp only [Act.put, List.setIfInBounds_toArray, List.set_cons_zero, List.set_cons_succ, List.getElem_toArray, List.getElem_cons_zero, List.getElem_cons_succ]
            refine wpAnyH_ready (rs := [9]) (by kernel_rfl) (by simp) ?_
            refine AllReadyH.cons (by rfl) (fun K hK => ?_) ?_
            · go_simp
              refine hK.out _ _ ?_ (fun hHeld => ?_)
              · (try dsimp only); first | with_reducible exact HK.out _ hp4 | with_reducible exact HK.out _ hpc | with_reducible exact HK.out _ hpb | with_reducible exact HK.out _ hpa | go_keep
              clear hK K
              try simp only [Act.put, List.setIfInBounds_toArray, List.set_cons_zero, List.set_cons_succ, List.getElem_toArray, List.getElem_cons_zero, List.getElem_cons_succ]
              refine wpAnyH_ready (rs := [10]) (by kernel_rfl) (by simp) ?_
              refine AllReadyH.cons (by rfl) (fun K hK => ?_) ?_
              · go_simp
                refine hK.out _ _ ?_ (fun hHeld => ?_)
                · (try dsimp only); first | with_reducible exact HK.out _ hp4 | with_reducible exact HK.out _ hpc | with_reducible exact HK.out _ hpb | with_reducible exact HK.out _ hpa | go_keep
                clear hK K
                try simp only [Act.put, List.setIfInBounds_toArray, List.set_cons_zero, List.set_cons_succ, List.getElem_toArray, List.getElem_cons_zero, List.getElem_cons_succ]
                refine wpAnyH_take (i := 11) (v := ?_) (by rfl) (by kernel_rfl) (by kernel_rfl) (by kernel_rfl) (by exact fun _ _ _ h => h) (Or.inl ⟨by rfl, ?_⟩) hHeld ?_
                rotate_left 1
                · intro w' hSw
                  go_simp
                  try with_reducible rfl
                try simp only [Act.put, List.setIfInBounds_toArray, List.set_cons_zero, List.set_cons_succ, List.getElem_toArray, List.getElem_cons_zero, List.getElem_cons_succ]
                refine wpAnyH_done (by kernel_rfl) ?_ _
                refine OnlyEx.mk' ?_
                simp only [HWA.out, HWB.out]
                first
                  | (with_reducible refine ⟨_, ?_, HF1.out⟩; simp only [puts, Act.put, List.setIfInBounds_toArray, List.set_cons_zero, List.set_cons_succ]; done)
                  | (with_reducible refine ⟨_, ?_, HF2.out⟩; simp only [puts, Act.put, List.setIfInBounds_toArray, List.set_cons_zero, List.set_cons_succ]; done)
              exact AllReadyH.nil
            exact AllReadyH.nil
          exact AllReadyH.nil
        exact AllReadyH.nil
      exact AllReadyH.nil
    refine AllReadyH.cons (by rfl) (fun K hK => ?_) ?_
    · go_simp
      refine hK.out _ _ ?_ (fun hHeld => ?_)
      · (try dsimp only); first | with_reducible exact HK.out _ hp4 | with_reducible exact HK.out _ hpc | with_reducible exact HK.out _ hpb | with_reducible exact HK.out _ hpa | go_keep
      clear hK K
      try simp only [Act.put, List.setIfInBounds_toArray, List.set_cons_zero, List.set_cons_succ, List.getElem_toArray, List.getElem_cons_zero, List.getElem_cons_succ]
      refine wpAnyH_ready (rs := [2, 8]) (by kernel_rfl) (by simp) ?_
      refine AllReadyH.cons (by rfl) (fun K hK => ?_) ?_
      · go_simp
        (with_reducible refine HDB.out.mono ?_); rintro e wb ⟨s, z1, m1, k1, z2, m2, k2, t, y1, n1, j1, y2, n2, j2, rfl, HTB, HGB⟩; have hpb := HTB.out.below; obtain ⟨q0, q1, q2, q3, q4, q5⟩ := HK.out _ hpb; obtain ⟨u0, u1, u2, u3⟩ := far1 HWL.out hpb; have HBB := Lib.hid (HZB.out.grown HGB.out hne1)
        refine hK.out _ _ ?_ (fun hHeld => ?_)
        · (try dsimp only); first | with_reducible exact HK.out _ hp4 | with_reducible exact HK.out _ hpc | with_reducible exact HK.out _ hpb | with_reducible exact HK.out _ hpa | go_keep
        clear hK K
        try simp only [Act.put, List.setIfInBounds_toArray, List.set_cons_zero, List.set_cons_succ, List.getElem_toArray, List.getElem_cons_zero, List.getElem_cons_succ]
        refine wpAnyH_ready (rs := [4, 8]) (by kernel_rfl) (by simp) ?_
        refine AllReadyH.cons (by rfl) (fun K hK => ?_) ?_
        · go_simp
          (with_reducible refine (dtold_form HTB.out HX.out HU.out HZ.out.1 HZ.out.2 (Below.refl _ _)).mono ?_); rintro e w4 ⟨s', f1, f2, f3, f4, f5, f6, t', d1, d2, d3, d4, d5, d6, rfl, H2, HG4⟩; have hp4 := H2.out.one.below; obtain ⟨r0, r1, r2, r3, r4, r5⟩ := HK.out _ hp4; obtain ⟨o0, o1, o2, o3⟩ := far1 HWL.out hp4; have HX1 := Lib.hid (HBB.out.kept HG4.out); have hf1 := (H2.out.end1a HX1.out hlt); have hf2 := (H2.out.end1b HX1.out hlt); dsimp only [Go.Proofs.YtomoemgoglghlaaGreatDoor.put6, Go.Proofs.YtomoemgoglghlaaGreatDoor.set6, c6] at hf1 hf2; obtain ⟨WA, hWA, hf3⟩ := hf1.split; obtain ⟨WB, hWB, hf4⟩ := hf2.split; have HF1 := Lib.hid hf3; have HF2 := Lib.hid hf4; have HWA := Lib.hid hWA; have HWB := Lib.hid hWB; clear hf1 hf2 hf3 hf4 hWA hWB; obtain ⟨g0, g1, g2, g3, g4, g5, g6, g7, g8, g9, g10, g11⟩ := cells6 HX1.out; obtain ⟨v0, v1, v2⟩ := six_ne HX1.out
          refine hK.out _ _ ?_ (fun hHeld => ?_)
          · (try dsimp only); first | with_reducible exact HK.out _ hp4 | with_reducible exact HK.out _ hpc | with_reducible exact HK.out _ hpb | with_reducible exact HK.out _ hpa | go_keep
          clear hK K
          try simp only [Act.put, List.setIfInBounds_toArray, List.set_cons_zero, List.set_cons_succ, List.getElem_toArray, List.getElem_cons_zero, List.getElem_cons_succ]
          refine wpAnyH_ready (rs := [8]) (by kernel_rfl) (by simp) ?_
          refine AllReadyH.cons (by rfl) (fun K hK => ?_) ?_
          · go_simp
            refine hK.out _ _ ?_ (fun hHeld => ?_)
            · (try dsimp only); first | with_reducible exact HK.out _ hp4 | with_reducible exact HK.out _ hpc | with_reducible exact HK.out _ hpb | with_reducible exact HK.out _ hpa | go_keep
            clear hK K
            try simp only [Act.put, List.setIfInBounds_toArray, List.set_cons_zero, List.set_cons_succ, List.getElem_toArray, List.getElem_cons_zero, List.getElem_cons_succ]
            refine wpAnyH_ready (rs := [9]) (by kernel_rfl) (by simp) ?_
            refine AllReadyH.cons (by rfl) (fun K hK => ?_) ?_
            · go_simp
              refine hK.out _ _ ?_ (fun hHeld => ?_)
              · (try dsimp only); first | with_reducible exact HK.out _ hp4 | with_reducible exact HK.out _ hpc | with_reducible exact HK.out _ hpb | with_reducible exact HK.out _ hpa | go_keep
              clear hK K
              try simp only [Act.put, List.setIfInBounds_toArray, List.set_cons_zero, List.set_cons_succ, List.getElem_toArray, List.getElem_cons_zero, List.getElem_cons_succ]
              refine wpAnyH_ready (rs := [10]) (by kernel_rfl) (by simp) ?_
              refine AllReadyH.cons (by rfl) (fun K hK => ?_) ?_
              · go_simp
                refine hK.out _ _ ?_ (fun hHeld => ?_)
                · (try dsimp only); first | with_reducible exact HK.out _ hp4 | with_reducible exact HK.out _ hpc | with_reducible exact HK.out _ hpb | with_reducible exact HK.out _ hpa | go_keep
                clear hK K
                try simp only [Act.put, List.setIfInBounds_toArray, List.set_cons_zero, List.set_cons_succ, List.getElem_toArray, List.getElem_cons_zero, List.getElem_cons_succ]
                refine wpAnyH_take (i := 11) (v := ?_) (by rfl) (by kernel_rfl) (by kernel_rfl) (by kernel_rfl) (by exact fun _ _ _ h => h) (Or.inl ⟨by rfl, ?_⟩) hHeld ?_
                rotate_left 1
                · intro w' hSw
                  go_simp
                  try with_reducible rfl
                try simp only [Act.put, List.setIfInBounds_toArray, List.set_cons_zero, List.set_cons_succ, List.getElem_toArray, List.getElem_cons_zero, List.getElem_cons_succ]
                refine wpAnyH_done (by kernel_rfl) ?_ _
                refine OnlyEx.mk' ?_
                simp only [HWA.out, HWB.out]
                first
                  | (with_reducible refine ⟨_, ?_, HF1.out⟩; simp only [puts, Act.put, List.setIfInBounds_toArray, List.set_cons_zero, List.set_cons_succ]; done)
                  | (with_reducible refine ⟨_, ?_, HF2.out⟩; simp only [puts, Act.put, List.setIfInBounds_toArray, List.set_cons_zero, List.set_cons_succ]; done)
              exact AllReadyH.nil
            exact AllReadyH.nil
          exact AllReadyH.nil
        refine AllReadyH.cons (by rfl) (fun K hK => ?_) ?_
        · go_simp
          refine hK.out _ _ ?_ (fun hHeld => ?_)
          · (try dsimp only); first | with_reducible exact HK.out _ hp4 | with_reducible exact HK.out _ hpc | with_reducible exact HK.out _ hpb | with_reducible exact HK.out _ hpa | go_keep
          clear hK K
          try simp only [Act.put, List.setIfInBounds_toArray, List.set_cons_zero, List.set_cons_succ, List.getElem_toArray, List.getElem_cons_zero, List.getElem_cons_succ]
          refine wpAnyH_ready (rs := [4]) (by kernel_rfl) (by simp) ?_
          refine AllReadyH.cons (by rfl) (fun K hK => ?_) ?_
          · go_simp
            (with_reducible refine (dtold_form HTB.out HX.out HU.out HZ.out.1 HZ.out.2 ((Below.refl wb.heap.size wb).alloc (Nat.le_refl _) (.cells #[.bool false, .slice none 0 0, .slice none 0 0, .bool false, .slice none 0 0, .slice none 0 0] 70))).mono ?_); rintro e w4 ⟨s', f1, f2, f3, f4, f5, f6, t', d1, d2, d3, d4, d5, d6, rfl, H2, HG4⟩; have hp4 := H2.out.one.below; obtain ⟨r0, r1, r2, r3, r4, r5⟩ := HK.out _ hp4; obtain ⟨o0, o1, o2, o3⟩ := far1 HWL.out hp4; have HX2 := Lib.hid (Six.kept (ty := 70) (heap_alloc_new wb _) HG4.out); have HX1 := Lib.hid ((HBB.out.kept ((Below.refl _ _).alloc (Nat.le_refl _) _)).kept HG4.out); have hgh : w1.heap.size ≠ wb.heap.size := Nat.ne_of_lt (Array.getElem?_eq_some_iff.1 HBB.out).1; have hhg := Ne.symm hgh; have hf1 := (H2.out.end2 HX1.out HX2.out hgh hlt HTB.out.lt); have hf2 := (H2.out.end2 HX2.out HX1.out hhg HTB.out.lt hlt); dsimp only [Go.Proofs.YtomoemgoglghlaaGreatDoor.put6, Go.Proofs.YtomoemgoglghlaaGreatDoor.set6, c6] at hf1 hf2; obtain ⟨WA, hWA, hf3⟩ := hf1.split; obtain ⟨WB, hWB, hf4⟩ := hf2.split; have HF1 := Lib.hid hf3; have HF2 := Lib.hid hf4; have HWA := Lib.hid hWA; have HWB := Lib.hid hWB; clear hf1 hf2 hf3 hf4 hWA hWB; obtain ⟨g0, g1, g2, g3, g4, g5, g6, g7, g8, g9, g10, g11⟩ := cells6 HX1.out; obtain ⟨i0, i1, i2, i3, i4, i5, i6, i7, i8, i9, i10, i11⟩ := cells6 HX2.out
            refine hK.out _ _ ?_ (fun hHeld => ?_)
            · (try dsimp only); first | with_reducible exact HK.out _ hp4 | with_reducible exact HK.out _ hpc | with_reducible exact HK.out _ hpb | with_reducible exact HK.out _ hpa | go_keep
            clear hK K
            try simp only [Act.put, List.setIfInBounds_toArray, List.set_cons_zero, List.set_cons_succ, List.getElem_toArray, List.getElem_cons_zero, List.getElem_cons_succ]
            refine wpAnyH_ready (rs := [9]) (by kernel_rfl) (by simp) ?_
            refine AllReadyH.cons (by rfl) (fun K hK => ?_) ?_
            · go_simp
              refine hK.out _ _ ?_ (fun hHeld => ?_)
              · (try dsimp only); first | with_reducible exact HK.out _ hp4 | with_reducible exact HK.out _ hpc | with_reducible exact HK.out _ hpb | with_reducible exact HK.out _ hpa | go_keep
              clear hK K
              try simp only [Act.put, List.setIfInBounds_toArray, List.set_cons_zero, List.set_cons_succ, List.getElem_toArray, List.getElem_cons_zero, List.getElem_cons_succ]
              refine wpAnyH_ready (rs := [10]) (by kernel_rfl) (by simp) ?_
              refine AllReadyH.cons (by rfl) (fun K hK => ?_) ?_
              · go_simp
                refine hK.out _ _ ?_ (fun hHeld => ?_)
                · (try dsimp only); first | with_reducible exact HK.out _ hp4 | with_reducible exact HK.out _ hpc | with_reducible exact HK.out _ hpb | with_reducible exact HK.out _ hpa | go_keep
                clear hK K
                try simp only [Act.put, List.setIfInBounds_toArray, List.set_cons_zero, List.set_cons_succ, List.getElem_toArray, List.getElem_cons_zero, List.getElem_cons_succ]
                refine wpAnyH_take (i := 11) (v := ?_) (by rfl) (by kernel_rfl) (by kernel_rfl) (by kernel_rfl) (by exact fun _ _ _ h => h) (Or.inl ⟨by rfl, ?_⟩) hHeld ?_
                rotate_left 1
                · intro w' hSw
                  go_simp
                  try with_reducible rfl
                try simp only [Act.put, List.setIfInBounds_toArray, List.set_cons_zero, List.set_cons_succ, List.getElem_toArray, List.getElem_cons_zero, List.getElem_cons_succ]
                refine wpAnyH_done (by kernel_rfl) ?_ _
                refine OnlyEx.mk' ?_
                simp only [HWA.out, HWB.out]
                first
                  | (with_reducible refine ⟨_, ?_, HF1.out⟩; simp only [puts, Act.put, List.setIfInBounds_toArray, List.set_cons_zero, List.set_cons_succ]; done)
                  | (with_reducible refine ⟨_, ?_, HF2.out⟩; simp only [puts, Act.put, List.setIfInBounds_toArray, List.set_cons_zero, List.set_cons_succ]; done)
              exact AllReadyH.nil
            exact AllReadyH.nil
          exact AllReadyH.nil
        exact AllReadyH.nil
      refine AllReadyH.cons (by rfl) (fun K hK => ?_) ?_
      · go_simp
        refine hK.out _ _ ?_ (fun hHeld => ?_)
        · (try dsimp only); first | with_reducible exact HK.out _ hp4 | with_reducible exact HK.out _ hpc | with_reducible exact HK.out _ hpb | with_reducible exact HK.out _ hpa | go_keep
        clear hK K
        try simp only [Act.put, List.setIfInBounds_toArray, List.set_cons_zero, List.set_cons_succ, List.getElem_toArray, List.getElem_cons_zero, List.getElem_cons_succ]
        refine wpAnyH_ready (rs := [2]) (by kernel_rfl) (by simp) ?_
        refine AllReadyH.cons (by rfl) (fun K hK => ?_) ?_
        · go_simp
          (with_reducible refine HDC.out.mono ?_); rintro e wc ⟨s, z1, m1, k1, z2, m2, k2, t, y1, n1, j1, y2, n2, j2, rfl, HTC, HGC⟩; have hpc := HTC.out.below; obtain ⟨q0, q1, q2, q3, q4, q5⟩ := HK.out _ hpc; obtain ⟨u0, u1, u2, u3⟩ := far1 HWL.out hpc; have HC1 := Lib.hid (HZC.out.1.grown HGC.out hne1); have HC2 := Lib.hid (HZC.out.2.grown HGC.out hne2)
          refine hK.out _ _ ?_ (fun hHeld => ?_)
          · (try dsimp only); first | with_reducible exact HK.out _ hp4 | with_reducible exact HK.out _ hpc | with_reducible exact HK.out _ hpb | with_reducible exact HK.out _ hpa | go_keep
          clear hK K
          try simp only [Act.put, List.setIfInBounds_toArray, List.set_cons_zero, List.set_cons_succ, List.getElem_toArray, List.getElem_cons_zero, List.getElem_cons_succ]
          refine wpAnyH_ready (rs := [4]) (by kernel_rfl) (by simp) ?_
          refine AllReadyH.cons (by rfl) (fun K hK => ?_) ?_
          · go_simp
            (with_reducible refine (dtold_form HTC.out HX.out HU.out HZ.out.1 HZ.out.2 (Below.refl _ _)).mono ?_); rintro e w4 ⟨s', f1, f2, f3, f4, f5, f6, t', d1, d2, d3, d4, d5, d6, rfl, H2, HG4⟩; have hp4 := H2.out.one.below; obtain ⟨r0, r1, r2, r3, r4, r5⟩ := HK.out _ hp4; obtain ⟨o0, o1, o2, o3⟩ := far1 HWL.out hp4; have HX1 := Lib.hid (HC1.out.kept HG4.out); have HX2 := Lib.hid (HC2.out.kept HG4.out); have hf1 := (H2.out.end2 HX1.out HX2.out HE1.out hlt hgt2); have hf2 := (H2.out.end2 HX2.out HX1.out (Ne.symm HE1.out) hgt2 hlt); dsimp only [Go.Proofs.YtomoemgoglghlaaGreatDoor.put6, Go.Proofs.YtomoemgoglghlaaGreatDoor.set6, c6] at hf1 hf2; obtain ⟨WA, hWA, hf3⟩ := hf1.split; obtain ⟨WB, hWB, hf4⟩ := hf2.split; have HF1 := Lib.hid hf3; have HF2 := Lib.hid hf4; have HWA := Lib.hid hWA; have HWB := Lib.hid hWB; clear hf1 hf2 hf3 hf4 hWA hWB; obtain ⟨g0, g1, g2, g3, g4, g5, g6, g7, g8, g9, g10, g11⟩ := cells6 HX1.out; obtain ⟨i0, i1, i2, i3, i4, i5, i6, i7, i8, i9, i10, i11⟩ := cells6 HX2.out
            refine hK.out _ _ ?_ (fun hHeld => ?_)
            · (try dsimp only); first | with_reducible exact HK.out _ hp4 | with_reducible exact HK.out _ hpc | with_reducible exact HK.out _ hpb | with_reducible exact HK.out _ hpa | go_keep
            clear hK K
            try simp only [Act.put, List.setIfInBounds_toArray, List.set_cons_zero, List.set_cons_succ, List.getElem_toArray, List.getElem_cons_zero, List.getElem_cons_succ]
            refine wpAnyH_ready (rs := [9]) (by kernel_rfl) (by simp) ?_
            refine AllReadyH.cons (by rfl) (fun K hK => ?_) ?_
            · go_simp
              refine hK.out _ _ ?_ (fun hHeld => ?_)
              · (try dsimp only); first | with_reducible exact HK.out _ hp4 | with_reducible exact HK.out _ hpc | with_reducible exact HK.out _ hpb | with_reducible exact HK.out _ hpa | go_keep
              clear hK K
              try simp only [Act.put, List.setIfInBounds_toArray, List.set_cons_zero, List.set_cons_succ, List.getElem_toArray, List.getElem_cons_zero, List.getElem_cons_succ]
              refine wpAnyH_ready (rs := [10]) (by kernel_rfl) (by simp) ?_
              refine AllReadyH.cons (by rfl) (fun K hK => ?_) ?_
              · go_simp
                refine hK.out _ _ ?_ (fun hHeld => ?_)
                · (try dsimp only); first | with_reducible exact HK.out _ hp4 | with_reducible exact HK.out _ hpc | with_reducible exact HK.out _ hpb | with_reducible exact HK.out _ hpa | go_keep
                clear hK K
                try simp only [Act.put, List.setIfInBounds_toArray, List.set_cons_zero, List.set_cons_succ, List.getElem_toArray, List.getElem_cons_zero, List.getElem_cons_succ]
                refine wpAnyH_take (i := 11) (v := ?_) (by rfl) (by kernel_rfl) (by kernel_rfl) (by kernel_rfl) (by exact fun _ _ _ h => h) (Or.inl ⟨by rfl, ?_⟩) hHeld ?_
                rotate_left 1
                · intro w' hSw
                  go_simp
                  try with_reducible rfl
                try simp only [Act.put, List.setIfInBounds_toArray, List.set_cons_zero, List.set_cons_succ, List.getElem_toArray, List.getElem_cons_zero, List.getElem_cons_succ]
                refine wpAnyH_done (by kernel_rfl) ?_ _
                refine OnlyEx.mk' ?_
                simp only [HWA.out, HWB.out]
                first
                  | (with_reducible refine ⟨_, ?_, HF1.out⟩; simp only [puts, Act.put, List.setIfInBounds_toArray, List.set_cons_zero, List.set_cons_succ]; done)
                  | (with_reducible refine ⟨_, ?_, HF2.out⟩; simp only [puts, Act.put, List.setIfInBounds_toArray, List.set_cons_zero, List.set_cons_succ]; done)
              exact AllReadyH.nil
            exact AllReadyH.nil
          exact AllReadyH.nil
        exact AllReadyH.nil
      exact AllReadyH.nil
    refine AllReadyH.cons (by rfl) (fun K hK => ?_) ?_
    · go_simp
      refine hK.out _ _ ?_ (fun hHeld => ?_)
      · (try dsimp only); first | with_reducible exact HK.out _ hp4 | with_reducible exact HK.out _ hpc | with_reducible exact HK.out _ hpb | with_reducible exact HK.out _ hpa | go_keep
      clear hK K
      try simp only [Act.put, List.setIfInBounds_toArray, List.set_cons_zero, List.set_cons_succ, List.getElem_toArray, List.getElem_cons_zero, List.getElem_cons_succ]
      refine wpAnyH_ready (rs := [2, 7]) (by kernel_rfl) (by simp) ?_
      refine AllReadyH.cons (by rfl) (fun K hK => ?_) ?_
      · go_simp
        (with_reducible refine HDB.out.mono ?_); rintro e wb ⟨s, z1, m1, k1, z2, m2, k2, t, y1, n1, j1, y2, n2, j2, rfl, HTB, HGB⟩; have hpb := HTB.out.below; obtain ⟨q0, q1, q2, q3, q4, q5⟩ := HK.out _ hpb; obtain ⟨u0, u1, u2, u3⟩ := far1 HWL.out hpb; have HBB := Lib.hid (HZB.out.grown HGB.out hne1)
        refine hK.out _ _ ?_ (fun hHeld => ?_)
        · (try dsimp only); first | with_reducible exact HK.out _ hp4 | with_reducible exact HK.out _ hpc | with_reducible exact HK.out _ hpb | with_reducible exact HK.out _ hpa | go_keep
        clear hK K
        try simp only [Act.put, List.setIfInBounds_toArray, List.set_cons_zero, List.set_cons_succ, List.getElem_toArray, List.getElem_cons_zero, List.getElem_cons_succ]
        refine wpAnyH_ready (rs := [4, 7]) (by kernel_rfl) (by simp) ?_
        refine AllReadyH.cons (by rfl) (fun K hK => ?_) ?_
        · go_simp
          (with_reducible refine (dtold_form HTB.out HX.out HU.out HZ.out.1 HZ.out.2 (Below.refl _ _)).mono ?_); rintro e w4 ⟨s', f1, f2, f3, f4, f5, f6, t', d1, d2, d3, d4, d5, d6, rfl, H2, HG4⟩; have hp4 := H2.out.one.below; obtain ⟨r0, r1, r2, r3, r4, r5⟩ := HK.out _ hp4; obtain ⟨o0, o1, o2, o3⟩ := far1 HWL.out hp4; have HX1 := Lib.hid (HBB.out.kept HG4.out); have hf1 := (H2.out.end1a HX1.out hlt); have hf2 := (H2.out.end1b HX1.out hlt); dsimp only [Go.Proofs.YtomoemgoglghlaaGreatDoor.put6, Go.Proofs.YtomoemgoglghlaaGreatDoor.set6, c6] at hf1 hf2; obtain ⟨WA, hWA, hf3⟩ := hf1.split; obtain ⟨WB, hWB, hf4⟩ := hf2.split; have HF1 := Lib.hid hf3; have HF2 := Lib.hid hf4; have HWA := Lib.hid hWA; have HWB := Lib.hid hWB; clear hf1 hf2 hf3 hf4 hWA hWB; obtain ⟨g0, g1, g2, g3, g4, g5, g6, g7, g8, g9, g10, g11⟩ := cells6 HX1.out; obtain ⟨v0, v1, v2⟩ := six_ne HX1.out
          refine hK.out _ _ ?_ (fun hHeld => ?_)
          · (try dsimp only); first | with_reducible exact HK.out _ hp4 | with_reducible exact HK.out _ hpc | with_reducible exact HK.out _ hpb | with_reducible exact HK.out _ hpa | go_keep
          clear hK K
          try simp only [Act.put, List.setIfInBounds_toArray, List.set_cons_zero, List.set_cons_succ, List.getElem_toArray, List.getElem_cons_zero, List.getElem_cons_succ]
          refine wpAnyH_ready (rs := [7]) (by kernel_rfl) (by simp) ?_
          refine AllReadyH.cons (by rfl) (fun K hK => ?_) ?_
          · go_simp
            refine hK.out _ _ ?_ (fun hHeld => ?_)
            · (try dsimp only); first | with_reducible exact HK.out _ hp4 | with_reducible exact HK.out _ hpc | with_reducible exact HK.out _ hpb | with_reducible exact HK.out _ hpa | go_keep
            clear hK K
            try simp only [Act.put, List.setIfInBounds_toArray, List.set_cons_zero, List.set_cons_succ, List.getElem_toArray, List.getElem_cons_zero, List.getElem_cons_succ]
            refine wpAnyH_ready (rs := [9]) (by kernel_rfl) (by simp) ?_
            refine AllReadyH.cons (by rfl) (fun K hK => ?_) ?_
            · go_simp
              refine hK.out _ _ ?_ (fun hHeld => ?_)
              · (try dsimp only); first | with_reducible exact HK.out _ hp4 | with_reducible exact HK.out _ hpc | with_reducible exact HK.out _ hpb | with_reducible exact HK.out _ hpa | go_keep
              clear hK K
              try simp only [Act.put, List.setIfInBounds_toArray, List.set_cons_zero, List.set_cons_succ, List.getElem_toArray, List.getElem_cons_zero, List.getElem_cons_succ]
              refine wpAnyH_ready (rs := [10]) (by kernel_rfl) (by simp) ?_
              refine AllReadyH.cons (by rfl) (fun K hK => ?_) ?_
              · go_simp
                refine hK.out _ _ ?_ (fun hHeld => ?_)
                · (try dsimp only); first | with_reducible exact HK.out _ hp4 | with_reducible exact HK.out _ hpc | with_reducible exact HK.out _ hpb | with_reducible exact HK.out _ hpa | go_keep
                clear hK K
                try simp only [Act.put, List.setIfInBounds_toArray, List.set_cons_zero, List.set_cons_succ, List.getElem_toArray, List.getElem_cons_zero, List.getElem_cons_succ]
                refine wpAnyH_take (i := 11) (v := ?_) (by rfl) (by kernel_rfl) (by kernel_rfl) (by kernel_rfl) (by exact fun _ _ _ h => h) (Or.inl ⟨by rfl, ?_⟩) hHeld ?_
                rotate_left 1
                · intro w' hSw
                  go_simp
                  try with_reducible rfl
                try simp only [Act.put, List.setIfInBounds_toArray, List.set_cons_zero, List.set_cons_succ, List.getElem_toArray, List.getElem_cons_zero, List.getElem_cons_succ]
                refine wpAnyH_done (by kernel_rfl) ?_ _
                refine OnlyEx.mk' ?_
                simp only [HWA.out, HWB.out]
                first
                  | (with_reducible refine ⟨_, ?_, HF1.out⟩; simp only [puts, Act.put, List.setIfInBounds_toArray, List.set_cons_zero, List.set_cons_succ]; done)
                  | (with_reducible refine ⟨_, ?_, HF2.out⟩; simp only [puts, Act.put, List.setIfInBounds_toArray, List.set_cons_zero, List.set_cons_succ]; done)
              exact AllReadyH.nil
            exact AllReadyH.nil
          exact AllReadyH.nil
        refine AllReadyH.cons (by rfl) (fun K hK => ?_) ?_
        · go_simp
          refine hK.out _ _ ?_ (fun hHeld => ?_)
          · (try dsimp only); first | with_reducible exact HK.out _ hp4 | with_reducible exact HK.out _ hpc | with_reducible exact HK.out _ hpb | with_reducible exact HK.out _ hpa | go_keep
          clear hK K
          try simp only [Act.put, List.setIfInBounds_toArray, List.set_cons_zero, List.set_cons_succ, List.getElem_toArray, List.getElem_cons_zero, List.getElem_cons_succ]
          refine wpAnyH_ready (rs := [4]) (by kernel_rfl) (by simp) ?_
          refine AllReadyH.cons (by rfl) (fun K hK => ?_) ?_
          · go_simp
            (with_reducible refine (dtold_form HTB.out HX.out HU.out HZ.out.1 HZ.out.2 ((Below.refl wb.heap.size wb).alloc (Nat.le_refl _) (.cells #[.bool false, .slice none 0 0, .slice none 0 0, .bool false, .slice none 0 0, .slice none 0 0] 70))).mono ?_); rintro e w4 ⟨s', f1, f2, f3, f4, f5, f6, t', d1, d2, d3, d4, d5, d6, rfl, H2, HG4⟩; have hp4 := H2.out.one.below; obtain ⟨r0, r1, r2, r3, r4, r5⟩ := HK.out _ hp4; obtain ⟨o0, o1, o2, o3⟩ := far1 HWL.out hp4; have HX2 := Lib.hid (Six.kept (ty := 70) (heap_alloc_new wb _) HG4.out); have HX1 := Lib.hid ((HBB.out.kept ((Below.refl _ _).alloc (Nat.le_refl _) _)).kept HG4.out); have hgh : w1.heap.size ≠ wb.heap.size := Nat.ne_of_lt (Array.getElem?_eq_some_iff.1 HBB.out).1; have hhg := Ne.symm hgh; have hf1 := (H2.out.end2 HX1.out HX2.out hgh hlt HTB.out.lt); have hf2 := (H2.out.end2 HX2.out HX1.out hhg HTB.out.lt hlt); dsimp only [Go.Proofs.YtomoemgoglghlaaGreatDoor.put6, Go.Proofs.YtomoemgoglghlaaGreatDoor.set6, c6] at hf1 hf2; obtain ⟨WA, hWA, hf3⟩ := hf1.split; obtain ⟨WB, hWB, hf4⟩ := hf2.split; have HF1 := Lib.hid hf3; have HF2 := Lib.hid hf4; have HWA := Lib.hid hWA; have HWB := Lib.hid hWB; clear hf1 hf2 hf3 hf4 hWA hWB; obtain ⟨g0, g1, g2, g3, g4, g5, g6, g7, g8, g9, g10, g11⟩ := cells6 HX1.out; obtain ⟨i0, i1, i2, i3, i4, i5, i6, i7, i8, i9, i10, i11⟩ := cells6 HX2.out
            refine hK.out _ _ ?_ (fun hHeld => ?_)
            · (try dsimp only); first | with_reducible exact HK.out _ hp4 | with_reducible exact HK.out _ hpc | with_reducible exact HK.out _ hpb | with_reducible exact HK.out _ hpa | go_keep
            clear hK K
            try simp only [Act.put, List.setIfInBounds_toArray, List.set_cons_zero, List.set_cons_succ, List.getElem_toArray, List.getElem_cons_zero, List.getElem_cons_succ]
            refine wpAnyH_ready (rs := [9]) (by kernel_rfl) (by simp) ?_
            refine AllReadyH.cons (by rfl) (fun K hK => ?_) ?_
            · go_simp
              refine hK.out _ _ ?_ (fun hHeld => ?_)
              · (try dsimp only); first | with_reducible exact HK.out _ hp4 | with_reducible exact HK.out _ hpc | with_reducible exact HK.out _ hpb | with_reducible exact HK.out _ hpa | go_keep
              clear hK K
              try simp only [Act.put, List.setIfInBounds_toArray, List.set_cons_zero, List.set_cons_succ, List.getElem_toArray, List.getElem_cons_zero, List.getElem_cons_succ]
              refine wpAnyH_ready (rs := [10]) (by kernel_rfl) (by simp) ?_
              refine AllReadyH.cons (by rfl) (fun K hK => ?_) ?_
              · go_simp
                refine hK.out _ _ ?_ (fun hHeld => ?_)
                · (try dsimp only); first | with_reducible exact HK.out _ hp4 | with_reducible exact HK.out _ hpc | with_reducible exact HK.out _ hpb | with_reducible exact HK.out _ hpa | go_keep
                clear hK K
                try simp only [Act.put, List.setIfInBounds_toArray, List.set_cons_zero, List.set_cons_succ, List.getElem_toArray, List.getElem_cons_zero, List.getElem_cons_succ]
                refine wpAnyH_take (i := 11) (v := ?_) (by rfl) (by kernel_rfl) (by kernel_rfl) (by kernel_rfl) (by exact fun _ _ _ h => h) (Or.inl ⟨by rfl, ?_⟩) hHeld ?_
                rotate_left 1
                · intro w' hSw
                  go_simp
                  try with_reducible rfl
                try simp only [Act.put, List.setIfInBounds_toArray, List.set_cons_zero, List.set_cons_succ, List.getElem_toArray, List.getElem_cons_zero, List.getElem_cons_succ]
                refine wpAnyH_done (by kernel_rfl) ?_ _
                refine OnlyEx.mk' ?_
                simp only [HWA.out, HWB.out]
                first
                  | (with_reducible refine ⟨_, ?_, HF1.out⟩; simp only [puts, Act.put, List.setIfInBounds_toArray, List.set_cons_zero, List.set_cons_succ]; done)
                  | (with_reducible refine ⟨_, ?_, HF2.out⟩; simp only [puts, Act.put, List.setIfInBounds_toArray, List.set_cons_zero, List.set_cons_succ]; done)
              exact AllReadyH.nil
            exact AllReadyH.nil
          exact AllReadyH.nil
        exact AllReadyH.nil
      refine AllReadyH.cons (by rfl) (fun K hK => ?_) ?_
      · go_simp
        refine hK.out _ _ ?_ (fun hHeld => ?_)
        · (try dsimp only); first | with_reducible exact HK.out _ hp4 | with_reducible exact HK.out _ hpc | with_reducible exact HK.out _ hpb | with_reducible exact HK.out _ hpa | go_keep
        clear hK K
        try simp only [Act.put, List.setIfInBounds_toArray, List.set_cons_zero, List.set_cons_succ, List.getElem_toArray, List.getElem_cons_zero, List.getElem_cons_succ]
        refine wpAnyH_ready (rs := [2]) (by kernel_rfl) (by simp) ?_
        refine AllReadyH.cons (by rfl) (fun K hK => ?_) ?_
        · go_simp
          (with_reducible refine HDC.out.mono ?_); rintro e wc ⟨s, z1, m1, k1, z2, m2, k2, t, y1, n1, j1, y2, n2, j2, rfl, HTC, HGC⟩; have hpc := HTC.out.below; obtain ⟨q0, q1, q2, q3, q4, q5⟩ := HK.out _ hpc; obtain ⟨u0, u1, u2, u3⟩ := far1 HWL.out hpc; have HC1 := Lib.hid (HZC.out.1.grown HGC.out hne1); have HC2 := Lib.hid (HZC.out.2.grown HGC.out hne2)
          refine hK.out _ _ ?_ (fun hHeld => ?_)
          · (try dsimp only); first | with_reducible exact HK.out _ hp4 | with_reducible exact HK.out _ hpc | with_reducible exact HK.out _ hpb | with_reducible exact HK.out _ hpa | go_keep
          clear hK K
          try simp only [Act.put, List.setIfInBounds_toArray, List.set_cons_zero, List.set_cons_succ, List.getElem_toArray, List.getElem_cons_zero, List.getElem_cons_succ]
          refine wpAnyH_ready (rs := [4]) (by kernel_rfl) (by simp) ?_
          refine AllReadyH.cons (by rfl) (fun K hK => ?_) ?_
          · go_simp
            (with_reducible refine (dtold_form HTC.out HX.out HU.out HZ.out.1 HZ.out.2 (Below.refl _ _)).mono ?_); rintro e w4 ⟨s', f1, f2, f3, f4, f5, f6, t', d1, d2, d3, d4, d5, d6, rfl, H2, HG4⟩; have hp4 := H2.out.one.below; obtain ⟨r0, r1, r2, r3, r4, r5⟩ := HK.out _ hp4; obtain ⟨o0, o1, o2, o3⟩ := far1 HWL.out hp4; have HX1 := Lib.hid (HC1.out.kept HG4.out); have HX2 := Lib.hid (HC2.out.kept HG4.out); have hf1 := (H2.out.end2 HX1.out HX2.out HE1.out hlt hgt2); have hf2 := (H2.out.end2 HX2.out HX1.out (Ne.symm HE1.out) hgt2 hlt); dsimp only [Go.Proofs.YtomoemgoglghlaaGreatDoor.put6, Go.Proofs.YtomoemgoglghlaaGreatDoor.set6, c6] at hf1 hf2; obtain ⟨WA, hWA, hf3⟩ := hf1.split; obtain ⟨WB, hWB, hf4⟩ := hf2.split; have HF1 := Lib.hid hf3; have HF2 := Lib.hid hf4; have HWA := Lib.hid hWA; have HWB := Lib.hid hWB; clear hf1 hf2 hf3 hf4 hWA hWB; obtain ⟨g0, g1, g2, g3, g4, g5, g6, g7, g8, g9, g10, g11⟩ := cells6 HX1.out; obtain ⟨i0, i1, i2, i3, i4, i5, i6, i7, i8, i9, i10, i11⟩ := cells6 HX2.out
            refine hK.out _ _ ?_ (fun hHeld => ?_)
            · (try dsimp only); first | with_reducible exact HK.out _ hp4 | with_reducible exact HK.out _ hpc | with_reducible exact HK.out _ hpb | with_reducible exact HK.out _ hpa | go_keep
            clear hK K
            try simp only [Act.put, List.setIfInBounds_toArray, List.set_cons_zero, List.set_cons_succ, List.getElem_toArray, List.getElem_cons_zero, List.getElem_cons_succ]
            refine wpAnyH_ready (rs := [9]) (by kernel_rfl) (by simp) ?_
            refine AllReadyH.cons (by rfl) (fun K hK => ?_) ?_
            · go_simp
              refine hK.out _ _ ?_ (fun hHeld => ?_)
              · (try dsimp only); first | with_reducible exact HK.out _ hp4 | with_reducible exact HK.out _ hpc | with_reducible exact HK.out _ hpb | with_reducible exact HK.out _ hpa | go_keep
              clear hK K
              try simp only [Act.put, List.setIfInBounds_toArray, List.set_cons_zero, List.set_cons_succ, List.getElem_toArray, List.getElem_cons_zero, List.getElem_cons_succ]
              refine wpAnyH_ready (rs := [10]) (by kernel_rfl) (by simp) ?_
              refine AllReadyH.cons (by rfl) (fun K hK => ?_) ?_
              · go_simp
                refine hK.out _ _ ?_ (fun hHeld => ?_)
                · (try dsimp only); first | with_reducible exact HK.out _ hp4 | with_reducible exact HK.out _ hpc | with_reducible exact HK.out _ hpb | with_reducible exact HK.out _ hpa | go_keep
                clear hK K
                try simp only [Act.put, List.setIfInBounds_toArray, List.set_cons_zero, List.set_cons_succ, List.getElem_toArray, List.getElem_cons_zero, List.getElem_cons_succ]
                refine wpAnyH_take (i := 11) (v := ?_) (by rfl) (by kernel_rfl) (by kernel_rfl) (by kernel_rfl) (by exact fun _ _ _ h => h) (Or.inl ⟨by rfl, ?_⟩) hHeld ?_
                rotate_left 1
                · intro w' hSw
                  go_simp
                  try with_reducible rfl
                try simp only [Act.put, List.setIfInBounds_toArray, List.set_cons_zero, List.set_cons_succ, List.getElem_toArray, List.getElem_cons_zero, List.getElem_cons_succ]
                refine wpAnyH_done (by kernel_rfl) ?_ _
                refine OnlyEx.mk' ?_
                simp only [HWA.out, HWB.out]
                first
                  | (with_reducible refine ⟨_, ?_, HF1.out⟩; simp only [puts, Act.put, List.setIfInBounds_toArray, List.set_cons_zero, List.set_cons_succ]; done)
                  | (with_reducible refine ⟨_, ?_, HF2.out⟩; simp only [puts, Act.put, List.setIfInBounds_toArray, List.set_cons_zero, List.set_cons_succ]; done)
              exact AllReadyH.nil
            exact AllReadyH.nil
          exact AllReadyH.nil
        exact AllReadyH.nil
      exact AllReadyH.nil
    exact AllReadyH.nil
  case rest =>
    rintro ⟨g, k, ⟨⟨s, ⟨x1, n1, k1⟩, ⟨x2, n2, k2⟩⟩, ⟨s', ⟨x3, n3, k3⟩, ⟨x4, n4, k4⟩⟩⟩, ⟨⟨t, ⟨y1, m1, j1⟩, ⟨y2, m2, j2⟩⟩, ⟨t', ⟨y3, m3, j3⟩, ⟨y4, m4, j4⟩⟩⟩⟩ w5 hF
    obtain ⟨hx, hy, hT⟩ := hF
    unfold Lies6 c6 at hx hy
    dsimp only at hx hy hT
    have HBL := Lib.hid (HB.out.trans (hT.one.below.mono HB.out.size))
    have HKX : Hid (∀ W, Below w5.heap.size w5 W → _) := Lib.hid fun W h => cells6 (stay hx h)
    have HKY : Hid (∀ W, Below w5.heap.size w5 W → _) := Lib.hid fun W h => cells6 (stay hy h)
    obtain ⟨g0, g1, g2, g3, g4, g5, _⟩ := HKX.out w5 (Below.refl _ _)
    obtain ⟨i0, i1, i2, i3, i4, i5, _⟩ := HKY.out w5 (Below.refl _ _)
    have HFA : Hid (∀ W, Below w5.heap.size w5 W → _) := Lib.hid fun W h => fitsQ hT.vy HZ.out.1 HM.out W h HOA.out
    have HFB : Hid (∀ W, Below w5.heap.size w5 W → _) := Lib.hid fun W h => fitsQ hT.uy HZ.out.2 HM.out W h HOB.out
    have HT := Lib.hid hT
    have HOV := Lib.hid (fun W (h : Below w5.heap.size w5 W) => over_any W W0.heap.size m (oA || oB) (hT.one.bench.kept h))
    clear hx hy hT HDA HDB HDC HZB HZC HK HX HU p0 p1 p2 p3 p4 p5 hlt hne1 hne2 hgt2 HE1 HB HM HOA HOB
    simp only [puts, Act.put, List.setIfInBounds_toArray, List.set_cons_zero, List.set_cons_succ]
    have HSZ : Hid (∀ W, Below w5.heap.size w5 W → (oA || oB) = true → Calls Tryz.prog 69 #[.agg #[.bool s, .slice x1 n1 k1, .slice x2 n2 k2, .bool s', .slice x3 n3 k3, .slice x4 n4 k4], .agg #[.bool false, .slice none 0 0, .slice none 0 0, .bool false, .slice none 0 0, .slice none 0 0]] W (GotV w5 (.bool true))) := Lib.hid fun W h ho => by
      have h1 := HT.out.one.vx
      have h2 := HT.out.one.ux
      rw [if_pos ho] at h1 h2
      exact SameDD (h1.kept h) (h2.kept h) (vq_z W) (vq_z W) (by rw [szQ_zero]; omega) (by rw [szQ_zero]; omega) (by rw [szQ_zero]; omega) (by rw [szQ_zero]; omega) h rfl rfl
    have HSY : Hid (∀ W, Below w5.heap.size w5 W → (oA || oB) = false → Calls Tryz.prog 69 #[.agg #[.bool s, .slice x1 n1 k1, .slice x2 n2 k2, .bool s', .slice x3 n3 k3, .slice x4 n4 k4], .agg #[.bool t, .slice y1 m1 j1, .slice y2 m2 j2, .bool t', .slice y3 m3 j3, .slice y4 m4 j4]] W (GotV w5 (.bool true))) := Lib.hid fun W h ho => by
      have h1 := HT.out.one.vx
      have h2 := HT.out.one.ux
      rw [if_neg (by rw [ho]; decide)] at h1 h2
      exact SameDD (h1.kept h) (h2.kept h) (HT.out.vy.kept h) (HT.out.uy.kept h) HZ.out.1 HZ.out.2 HZ.out.1 HZ.out.2 h rfl rfl
    clear HT HZ
    cases oA
    case true =>
      go_wp2_with fail
      refine (HFA.out _ (Below.refl _ _)).mono ?_
      rintro e w6 ⟨rfl, G6⟩
      obtain ⟨g0, g1, g2, g3, g4, g5, _⟩ := HKX.out w6 G6.out
      have HV6 := Lib.hid (HOV.out w6 G6.out)
      have HS6 := Lib.hid (HSZ.out w6 G6.out (by simp))
      clear HFA HFB HKX HKY HOV HSZ HSY
      go_wp2_with fail
      refine HV6.out.mono ?_
      rintro e w7 ⟨rfl, rfl⟩
      go_wp2_with fail
      refine HS6.out.mono ?_
      rintro e w8 ⟨rfl, G8⟩
      have HE := Lib.hid (HBL.out.trans (G8.out.mono HBL.out.size))
      clear HS6 G8 G6
      go_wp2_with fail
      go_ret
      exact ⟨rfl, HE.out⟩
    case false =>
    cases oB
    case true =>
      go_wp2_with fail
      refine (HFA.out _ (Below.refl _ _)).mono ?_
      rintro e w6 ⟨rfl, G6⟩
      obtain ⟨i0, i1, i2, i3, i4, i5, _⟩ := HKY.out w6 G6.out
      have HFB6 := Lib.hid (HFB.out w6 G6.out)
      clear HFA HFB
      go_wp2_with fail
      refine HFB6.out.mono ?_
      rintro e w7 ⟨rfl, G7⟩
      obtain ⟨g0, g1, g2, g3, g4, g5, _⟩ := HKX.out w7 G7.out
      have HV6 := Lib.hid (HOV.out w7 G7.out)
      have HS6 := Lib.hid (HSZ.out w7 G7.out (by simp))
      clear HFB6 HKX HKY HOV HSZ HSY G6
      go_wp2_with fail
      refine HV6.out.mono ?_
      rintro e w8 ⟨rfl, rfl⟩
      go_wp2_with fail
      refine HS6.out.mono ?_
      rintro e w9 ⟨rfl, G8⟩
      have HE := Lib.hid (HBL.out.trans (G8.out.mono HBL.out.size))
      clear HS6 G8 G7
      go_wp2_with fail
      go_ret
      exact ⟨rfl, HE.out⟩
    case false =>
      go_wp2_with fail
      refine (HFA.out _ (Below.refl _ _)).mono ?_
      rintro e w6 ⟨rfl, G6⟩
      obtain ⟨i0, i1, i2, i3, i4, i5, _⟩ := HKY.out w6 G6.out
      have HFB6 := Lib.hid (HFB.out w6 G6.out)
      clear HFA HFB
      go_wp2_with fail
      refine HFB6.out.mono ?_
      rintro e w7 ⟨rfl, G7⟩
      obtain ⟨g0, g1, g2, g3, g4, g5, _⟩ := HKX.out w7 G7.out
      obtain ⟨i0, i1, i2, i3, i4, i5, _⟩ := HKY.out w7 G7.out
      have HV6 := Lib.hid (HOV.out w7 G7.out)
      have HS6 := Lib.hid (HSY.out w7 G7.out rfl)
      clear HFB6 HKX HKY HOV HSZ HSY G6
      go_wp2_with fail
      refine HV6.out.mono ?_
      rintro e w8 ⟨rfl, rfl⟩
      go_wp2_with fail
      refine HS6.out.mono ?_
      rintro e w9 ⟨rfl, G8⟩
      have HE := Lib.hid (HBL.out.trans (G8.out.mono HBL.out.size))
      clear HS6 G8 G7
      go_wp2_with fail
      go_ret
      exact ⟨rfl, HE.out⟩
end Go.Proofs.YtomoemgoglghlaaGreatDoor
