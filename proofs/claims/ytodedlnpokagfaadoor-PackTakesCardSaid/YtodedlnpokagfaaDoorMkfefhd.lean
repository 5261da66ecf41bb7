/- By program out of: PkPutR, PkRPut, PkRPut2, PkRLimbs, PkRRat, DelRef, DelCmp, DelText, DelBy, DelBySub, DelByMul, DelOps, DelOdd, PkThing, PkPSt, PkPut04, PkPut5, PkPure, PkRef4, PkRef5. -/
import Derived.Test.YtodedlnpokagfaaDoorMibdfpo
import Derived.Test.YtodedlnpokagfaaDoorMejeoaf
import Derived.Test.YtodedlnpokagfaaDoorMekbcbf
/-
  Layer 4: Out.Ratio, Out.Delta.
-/
set_option linter.unusedVariables false
set_option linter.unusedSimpArgs false
namespace Go.Proofs.YtodedlnpokagfaaDoor
open Go.RowKit Rep

theorem PutsO.before {w w1 w2 : World} {S : Nat → Prop} {o : Nat} {bs : List Nat} {e : Ending} (hb : Below w.heap.size w w1) (h : PutsO o S bs w1 e w2) : PutsO o S bs w e w2 := by
  obtain ⟨h1, h2, h3⟩ := h
  have h4 := hb.size
  refine ⟨h1, Lib.hid (h2.out.mono fun k hk => ?_), Lib.hid ((Chg.of_below hb).trans' h3.out)⟩
  rcases hk with hk | hk
  · exact .inl hk
  · exact .inr ⟨by omega, hk.2⟩
/-- Limbs that are put. -/
structure LimbsP (w : World) (S : Nat → Prop) (a : Option Addr) (c : Nat) (xs : List Nat) : Prop where
  reads : Reads w a (xs.map u32v)
  apart : xs = [] ∨ ∀ g, blk a = some g → ¬ S g
  lim : Lim xs
  le : xs.length ≤ c
  cap : c ≤ maxLen
  len : xs.length ≤ 1000
theorem LimbsP.chg {w w' : World} {S : Nat → Prop} {a : Option Addr} {c : Nat} {xs : List Nat} (h : LimbsP w S a c xs) (hc : Chg S w w') : LimbsP w' S a c xs := ⟨h.reads.chg' hc h.apart, h.apart, h.lim, h.le, h.cap, h.len⟩
theorem LimbsP.plus {w w' : World} {S : Nat → Prop} {a : Option Addr} {c : Nat} {xs : List Nat} (h : LimbsP w S a c xs) (hc : Chg S w w') : LimbsP w' (Plus S w w') a c xs := by
  refine ⟨h.reads.chg' hc h.apart, ?_, h.lim, h.le, h.cap, h.len⟩
  by_cases e : xs = []
  · exact .inl e
  · refine .inr fun g' e' hp => ?_
    rcases h.reads with h0 | ⟨g, off, rfl, h0⟩
    · exact e (by simpa using h0)
    · cases e'
      have hlt := World.block_lt_of_cell? _ _ (h0 0 _ (map_getElem? (xs := xs) (f := u32v) (List.length_pos_iff.2 e)))
      rcases hp with hp | hp
      · rcases h.apart with h1 | h1
        · exact e h1
        · exact h1 _ rfl hp
      · have h2 : w.heap.size ≤ g := hp.1
        have h3 : g < w.heap.size := hlt
        omega
end Go.Proofs.YtodedlnpokagfaaDoor


/-
  Layer 4: the document's Int and Flag, behind others.
-/
set_option linter.unusedVariables false
set_option linter.unusedSimpArgs false
namespace Go.Proofs.YtodedlnpokagfaaDoor
open Go.RowKit Rep

/-- A call gives a row with these bytes, out of that at a. -/
def PutsR (a : Option Addr) (bs : List Nat) (w : World) (e : Ending) (w' : World) : Prop :=
  ∃ a' c', e = .returned (.slice a' bs.length c') ∧ Hid (OwnR 5 u8v 0 w' a' c' bs) ∧ Hid (w.grownBy w' (blk a)) ∧ Hid (∀ j, blk a' = some j → blk a = some j ∨ w.heap.size ≤ j)
theorem PutsR.before {a : Option Addr} {bs : List Nat} {w w1 : World} {e : Ending} {w' : World} (hb : Below w.heap.size w w1) (h : PutsR a bs w1 e w') : PutsR a bs w e w' := by
  obtain ⟨a', c', h1, h2, h3, h4⟩ := h
  exact ⟨a', c', h1, h2, Lib.hid (grownBy_trans_new (grown_of_below hb _) h3.out), Lib.hid fun j hj => by
    rcases h4.out j hj with h | h
    · exact .inl h
    · exact .inr (by have := hb.size; omega)⟩
/-- The array of a number, behind so many rounds. -/
structure ArrAt (w : World) (m k : Nat) (wr : World) : Prop where
  arr : ∃ Q : List Nat, Q.length = 8 ∧ wr.heap[w.heap.size]? = some (.cells (Q.map u8v).toArray 75 (0, 0)) ∧ Q.drop k = Pk.be (8 - k) m
  below : Below w.heap.size w wr
theorem ArrAt.start (w : World) (m : Nat) : ArrAt w m 8 (w.alloc (.cells #[.int .u8 0, .int .u8 0, .int .u8 0, .int .u8 0, .int .u8 0, .int .u8 0, .int .u8 0, .int .u8 0] 75)) :=
  ⟨⟨List.replicate 8 0, by simp, by simpa [List.replicate_succ, u8v] using heap_alloc_new w (.cells #[.int .u8 0, .int .u8 0, .int .u8 0, .int .u8 0, .int .u8 0, .int .u8 0, .int .u8 0, .int .u8 0] 75), by simp [Pk.be]⟩, (Below.refl _ _).alloc (Nat.le_refl _) _⟩
theorem ArrAt.cells {w wr : World} {m k j : Nat} (h : ArrAt w m k wr) (hj : j < 8) : ∃ d : Nat, wr.cell? ⟨w.heap.size, j, none⟩ = some (.int .u8 (d : Int)) ∧ wr.frozen? ⟨w.heap.size, j, none⟩ = false := by
  obtain ⟨⟨Q, h1, h2, h3⟩, h4⟩ := h
  refine ⟨Q.getD j 0, ?_, by simp [World.frozen?, h2]⟩
  simp only [World.cell?, h2]
  rw [List.getElem?_toArray, map_getElem? (by omega)]
  rfl
theorem ArrAt.next {w wr : World} {m k : Nat} (h : ArrAt w m (k + 1) wr) (hk : k < 8) : ArrAt w m k (wr.setCell ⟨w.heap.size, k, none⟩ (.int .u8 ((m / 256 ^ (7 - k) % 256 : Nat) : Int))) := by
  obtain ⟨⟨Q, h1, h2, h3⟩, h4⟩ := h
  refine ⟨⟨Q.set k (m / 256 ^ (7 - k) % 256), by simpa using h1, ?_, ?_⟩, h4.setCell (p := ⟨w.heap.size, k, none⟩) (Nat.le_refl _) _⟩
  · simp only [World.setCell, Array.getElem?_modify, h2]
    simp only [if_true, Option.map_some]
    congr 2
    simp [List.map_set, u8v]
  · rw [show 8 - k = (7 - k) + 1 from by omega, be_cons, show (7 - k) = 8 - (k + 1) from by omega, ← h3]
    rw [List.drop_eq_getElem_cons (by simp; omega)]
    congr 1
    · simp
    · rw [List.drop_set_of_lt (by omega)]
theorem ArrAt.reads {w wr : World} {m : Nat} (h : ArrAt w m 0 wr) : Reads wr (some ⟨w.heap.size, 0, none⟩) ((Pk.be 8 m).map u8v) := by
  obtain ⟨⟨Q, h1, h2, h3⟩, h4⟩ := h
  rw [List.drop_zero] at h3
  rw [← h3]
  refine .inr ⟨w.heap.size, 0, rfl, fun i u hu => ?_⟩
  simp only [World.cell?, h2, Nat.zero_add]
  rw [List.getElem?_toArray]
  exact hu

end Go.Proofs.YtodedlnpokagfaaDoor


/-
  Layer 4: the document's Flag, Bytes, behind others.
-/
set_option linter.unusedVariables false
set_option linter.unusedSimpArgs false
namespace Go.Proofs.YtodedlnpokagfaaDoor
open Go.RowKit Rep

theorem PutsR.then' {a a1 : Option Addr} {bs : List Nat} {w w1 w2 : World} {e : Ending} (hg : w.grownBy w1 (blk a)) (hn : ∀ j, blk a1 = some j → blk a = some j ∨ w.heap.size ≤ j) (h : PutsR a1 bs w1 e w2) : PutsR a bs w e w2 := by
  obtain ⟨a', c', h1, h2, h3, h4⟩ := h
  refine ⟨a', c', h1, h2, Lib.hid ⟨h3.out.os.trans hg.os, h3.out.tape.trans hg.tape, h3.out.output.trans hg.output, Nat.le_trans hg.size h3.out.size, fun k hk hne => ?_⟩, Lib.hid fun j hj => ?_⟩
  · refine (h3.out.block k (Nat.lt_of_lt_of_le hk hg.size) fun e => ?_).trans (hg.block k hk hne)
    rcases hn k e.symm with h | h
    · exact hne h.symm
    · omega
  · rcases h4.out j hj with h | h
    · exact hn j h
    · exact .inr (by have := hg.size; omega)

end Go.Proofs.YtodedlnpokagfaaDoor


/-
  Layer 4: the document's limbs, behind others.
-/
set_option linter.unusedVariables false
set_option linter.unusedSimpArgs false
namespace Go.Proofs.YtodedlnpokagfaaDoor
open Go.RowKit Rep

theorem be_four (x : Nat) : Pk.be 4 x = [x / 16777216 % 256, x / 65536 % 256, x / 256 % 256, x % 256] := by
  simp [Pk.be, Nat.div_div_eq_div_mul]
/-- Behind j rounds. -/
structure RlAt (w : World) (a : Option Addr) (bs : List Nat) (a' : Option Addr) (c' : Nat) (wr : World) : Prop where
  own : OwnR 5 u8v 0 wr a' c' bs
  grown : w.grownBy wr (blk a)
  new : ∀ j, blk a' = some j → blk a = some j ∨ w.heap.size ≤ j
theorem RlAt.next {w wr w6 : World} {a a' a2 : Option Addr} {c' c3 : Nat} {bs ys : List Nat} {o : Obj} (h : RlAt w a bs a' c' wr) (hown : OwnR 5 u8v 0 w6 a2 c3 (bs ++ ys)) (hg : (wr.drew.alloc o).grownBy w6 (blk a')) (hn : ∀ j, blk a2 = some j → blk a' = some j ∨ (wr.drew.alloc o).heap.size ≤ j) : RlAt w a (bs ++ ys) a2 c3 w6 := by
  have hb : Below wr.heap.size wr (wr.drew.alloc o) := (below_drew wr).trans ((Below.refl wr.drew.heap.size wr.drew).alloc (Nat.le_refl _) o)
  obtain ⟨a3, c4, e1, h1, h2, h3⟩ := PutsR.then' h.grown h.new (PutsR.before hb ⟨a2, c3, rfl, Lib.hid hown, Lib.hid hg, Lib.hid hn⟩)
  cases e1
  exact ⟨h1.out, h2.out, h3.out⟩
/-- What the bytes are reckoned of, each number with a letter. -/
theorem limb_steps {x : Nat} (hx : x < 4294967296) : ∃ q0 q1 r1 q2 r2 r3 : Nat,
    (IntKind.u32.wrap ((x : Int) / 16777216) = (q0 : Int) ∧ IntKind.u8.wrap (q0 : Int) = (q0 : Int)) ∧ (IntKind.u32.wrap ((x : Int) / 65536) = (q1 : Int) ∧ (q1 : Int).tmod 256 = (r1 : Int) ∧ IntKind.u8.wrap (r1 : Int) = (r1 : Int)) ∧
    (IntKind.u32.wrap ((x : Int) / 256) = (q2 : Int) ∧ (q2 : Int).tmod 256 = (r2 : Int) ∧ IntKind.u8.wrap (r2 : Int) = (r2 : Int)) ∧ ((x : Int).tmod 256 = (r3 : Int) ∧ IntKind.u8.wrap (r3 : Int) = (r3 : Int)) ∧ [q0, r1, r2, r3] = Pk.be 4 x := by
  refine ⟨x / 16777216, x / 65536, x / 65536 % 256, x / 256, x / 256 % 256, x % 256, ⟨?_, ?_⟩, ⟨?_, ?_, ?_⟩, ⟨?_, ?_, ?_⟩, ⟨?_, ?_⟩, ?_⟩
  · rw [IntWalk.u32_in _ (by omega)]; rfl
  · rw [IntWalk.u8_in _ (by omega)]
  · rw [IntWalk.u32_in _ (by omega)]; rfl
  · rw [Int.tmod_eq_emod_of_nonneg (by omega)]; rfl
  · rw [IntWalk.u8_in _ (by omega)]
  · rw [IntWalk.u32_in _ (by omega)]; rfl
  · rw [Int.tmod_eq_emod_of_nonneg (by omega)]; rfl
  · rw [IntWalk.u8_in _ (by omega)]
  · rw [Int.tmod_eq_emod_of_nonneg (by omega)]; rfl
  · rw [IntWalk.u8_in _ (by omega)]
  · rw [be_four]
    have : x / 16777216 < 256 := by omega
    rw [Nat.mod_eq_of_lt this]

end Go.Proofs.YtodedlnpokagfaaDoor


/-
  Layer 4: the document's Ratio and Delta, behind others.
-/
set_option linter.unusedVariables false
set_option linter.unusedSimpArgs false
namespace Go.Proofs.YtodedlnpokagfaaDoor
open Go.RowKit Rep

/-- Limbs that the document puts. -/
structure LimbsR (w : World) (a b : Option Addr) (c : Nat) (xs : List Nat) : Prop where
  reads : Reads w b (xs.map u32v)
  apart : xs = [] ∨ ∀ g, blk b = some g → blk a ≠ some g ∧ g < w.heap.size
  lim : Lim xs
  le : xs.length ≤ c
  cap : c ≤ maxLen
  len : xs.length ≤ 1000
theorem LimbsR.grown {w W : World} {a a' b : Option Addr} {c c' : Nat} {bs xs : List Nat} (h : LimbsR w a b c xs) (k : RlAt w a bs a' c' W) : LimbsR W a' b c xs := by
  refine ⟨?_, ?_, h.lim, h.le, h.cap, h.len⟩
  · rcases h.apart with h1 | h1
    · rw [h1]; exact .inl rfl
    · exact h.reads.grown k.grown (.inr fun g off e e' => by subst e; exact (h1 g rfl).1 e'.symm)
  · rcases h.apart with h1 | h1
    · exact .inl h1
    · refine .inr fun g e => ⟨fun e2 => ?_, by have := (h1 g e).2; have := k.grown.size; omega⟩
      rcases k.new g e2 with h2 | h2
      · exact (h1 g e).1 h2
      · have := (h1 g e).2; omega
theorem LimbsR.kept {w W : World} {a b : Option Addr} {c : Nat} {xs : List Nat} (h : LimbsR w a b c xs) (hb : Below w.heap.size w W) : LimbsR W a b c xs :=
  ⟨h.reads.kept hb, h.apart.imp id fun h1 g e => ⟨(h1 g e).1, by have := (h1 g e).2; have := hb.size; omega⟩, h.lim, h.le, h.cap, h.len⟩
def PutsL (w : World) (a : Option Addr) (bs : List Nat) (e : Ending) (W' : World) : Prop := ∃ a' c', e = .returned (.slice a' bs.length c') ∧ Hid (RlAt w a bs a' c' W')
theorem RlAt.start {w : World} {a : Option Addr} {c : Nat} {bs : List Nat} (h : OwnR 5 u8v 0 w a c bs) : RlAt w a bs a c w := ⟨h, grown_refl _ _, fun _ hj => .inl hj⟩
theorem RlAt.kept {w W W' : World} {a a' : Option Addr} {c' : Nat} {bs : List Nat} (h : RlAt w a bs a' c' W) (hb : Below W.heap.size W W') : RlAt w a bs a' c' W' := ⟨h.own.kept hb, grownBy_trans_new h.grown (grown_of_below hb _), h.new⟩
theorem RlAt.puts {w W W' : World} {a a' : Option Addr} {c' : Nat} {bs cs : List Nat} {e : Ending} (h : RlAt w a bs a' c' W) (k : PutsR a' cs W e W') : PutsL w a cs e W' := by
  obtain ⟨a3, c4, e1, h1, h2, h3⟩ := PutsR.then' h.grown h.new k
  exact ⟨a3, c4, e1, Lib.hid ⟨h1.out, h2.out, h3.out⟩⟩
theorem PutsL.puts {w W : World} {a : Option Addr} {bs : List Nat} {e : Ending} {W' : World} (hb : Below w.heap.size w W) (h : PutsL W a bs e W') : PutsR a bs w e W' := by
  obtain ⟨a', c', e1, h1⟩ := h
  exact PutsR.before hb ⟨a', c', e1, Lib.hid h1.out.own, Lib.hid h1.out.grown, Lib.hid h1.out.new⟩
theorem OwnR.not_new {w : World} {a : Option Addr} {c : Nat} {bs : List Nat} (h : OwnR 5 u8v 0 w a c bs) : blk a ≠ some w.heap.size := by
  obtain ⟨_, ⟨rfl, _⟩ | ⟨g, rfl, _, hr⟩⟩ := h
  · intro e; cases e
  · intro e
    have h1 := hr.lt
    have h2 : g = w.heap.size := by simpa [blk] using e
    omega

end Go.Proofs.YtodedlnpokagfaaDoor


/-
  The document's Of, Form, Add, Neg, Scale of numbers with a delta.
-/
set_option linter.unusedVariables false
set_option linter.unusedSimpArgs false
namespace Go.Proofs.YtodedlnpokagfaaDoor
open Go.RowKit Rep


end Go.Proofs.YtodedlnpokagfaaDoor


/-
  Numbers with a delta: how two stand to one another, the document's and the program's; Same, Right.
-/
set_option linter.unusedVariables false
set_option linter.unusedSimpArgs false
namespace Go.Proofs.YtodedlnpokagfaaDoor
open Go.RowKit Rep

/-- How two numbers with a delta stand to one another. -/
def cmpDQ (q r q' r' : Rat) : Int := if cmpQ q q' = 0 then cmpQ r r' else cmpQ q q'
theorem VQ.ratx {q : Rat} {s : Bool} {a b : Option Addr} {l c k e : Nat} {W : World} (h : VQ q (s, (a, l, c), (b, k, e)) W) (hs : szQ q ≤ 100) : RatX W s a l c b k e (mgQ q) q.den (denN q.den) q := by
  obtain ⟨h0, h1, h2, h3⟩ := h
  dsimp only at h0 h1 h2 h3
  subst h0 h1 h2
  exact h3.x (by omega)
section
variable {W5 W : World} {q r : Rat} {s t : Bool} {z1 z2 y1 y2 : Option Addr} {m1 k1 m2 k2 n1 j1 n2 j2 : Nat}
end

set_option maxRecDepth 100000 in
set_option maxHeartbeats 4000000 in
theorem SameDD {W5 w : World} {xs : Bool} {xa xb : Option Addr} {xl xc xk xe : Nat} {us : Bool} {ua ub : Option Addr} {ul uc uk ue : Nat} {ys : Bool} {ya yb : Option Addr} {yl yc yk ye : Nat} {vs : Bool} {va vb : Option Addr} {vl vc vk ve : Nat} {q r q' r' : Rat} (hx : VQ q (xs, (xa, xl, xc), (xb, xk, xe)) w) (hu : VQ r (us, (ua, ul, uc), (ub, uk, ue)) w) (hy : VQ q' (ys, (ya, yl, yc), (yb, yk, ye)) w) (hv : VQ r' (vs, (va, vl, vc), (vb, vk, ve)) w) (zq : szQ q ≤ 100) (zr : szQ r ≤ 100) (zq' : szQ q' ≤ 100) (zr' : szQ r' ≤ 100) (hb5 : Below W5.heap.size W5 w) (e1 : q = q') (e2 : r = r') :
    Calls Tryd.prog 21 #[.agg #[.bool xs, .slice xa xl xc, .slice xb xk xe, .bool us, .slice ua ul uc, .slice ub uk ue], .agg #[.bool ys, .slice ya yl yc, .slice yb yk ye, .bool vs, .slice va vl vc, .slice vb vk ve]] w (GotV W5 (.bool true)) := by
  obtain ⟨W0, hW0, hB0, b0, b1, hs⟩ := boxes2 w #[.bool xs, .slice xa xl xc, .slice xb xk xe, .bool us, .slice ua ul uc, .slice ub uk ue] #[.bool ys, .slice ya yl yc, .slice yb yk ye, .bool vs, .slice va vl vc, .slice vb vk ve] 38 38
  have HK : Hid (∀ W, Below W0.heap.size W0 W → (W.cell? ⟨w.heap.size, 0, none⟩ = some (.bool xs) ∧ W.cell? ⟨w.heap.size, 1, none⟩ = some (.slice xa xl xc) ∧ W.cell? ⟨w.heap.size, 2, none⟩ = some (.slice xb xk xe) ∧ W.cell? ⟨w.heap.size, 3, none⟩ = some (.bool us) ∧ W.cell? ⟨w.heap.size, 4, none⟩ = some (.slice ua ul uc) ∧ W.cell? ⟨w.heap.size, 5, none⟩ = some (.slice ub uk ue) ∧ W.cell? ⟨w.heap.size + 1, 0, none⟩ = some (.bool ys) ∧ W.cell? ⟨w.heap.size + 1, 1, none⟩ = some (.slice ya yl yc) ∧ W.cell? ⟨w.heap.size + 1, 2, none⟩ = some (.slice yb yk ye) ∧ W.cell? ⟨w.heap.size + 1, 3, none⟩ = some (.bool vs) ∧ W.cell? ⟨w.heap.size + 1, 4, none⟩ = some (.slice va vl vc) ∧ W.cell? ⟨w.heap.size + 1, 5, none⟩ = some (.slice vb vk ve))) := Lib.hid fun W h => by
    obtain ⟨k0, k1, k2, k3, k4, k5, _⟩ := cells6 (stay b0 h)
    obtain ⟨k6, k7, k8, k9, k10, k11, _⟩ := cells6 (stay b1 h)
    exact ⟨k0, k1, k2, k3, k4, k5, k6, k7, k8, k9, k10, k11⟩
  have HBL := Lib.hid (hb5.trans (hB0.mono hb5.size))
  have HW0 := Lib.hid hW0
  obtain ⟨k0, k1, k2, k3, k4, k5, k6, k7, k8, k9, k10, k11⟩ := HK.out W0 (Below.refl _ _)
  subst e1 e2
  have HC1 : Hid (∀ W, Below W0.heap.size W0 W → _) := Lib.hid fun W h => got_same ((hx.kept hB0).kept h) ((hy.kept hB0).kept h) zq h
  have HC2 : Hid (∀ W, Below W0.heap.size W0 W → _) := Lib.hid fun W h => got_same ((hu.kept hB0).kept h) ((hv.kept hB0).kept h) zr h
  clear hW0 hB0 b0 b1 hs hx hu hy hv zq zr zq' zr' hb5
  go_enter Tryd.func21, Tryd.ntmps21
  go_wp2_with fail
  rw [← HW0.out]
  refine (HC1.out W0 (Below.refl _ _)).mono ?_
  rintro e w3 ⟨rfl, G3⟩
  obtain ⟨k0, k1, k2, k3, k4, k5, k6, k7, k8, k9, k10, k11⟩ := HK.out _ G3.out
  clear HC1
  go_wp2_with fail
  refine (HC2.out _ G3.out).mono ?_
  rintro e w4 ⟨rfl, G4⟩
  have HE := Lib.hid (HBL.out.trans (G4.out.mono HBL.out.size))
  clear HC2 G3 G4
  go_wp2_with fail
  go_ret
  exact ⟨rfl, HE⟩


set_option maxRecDepth 100000 in
set_option maxHeartbeats 2000000 in
theorem RightDD {W5 w : World} {s t : Bool} {a1 a2 b1 b2 : Option Addr} {c1 c2 e1 e2 : Nat} {xs ds ys es : List Nat} (hx : HandR w a1 c1 xs a2 c2 ds) (hu : HandR w b1 e1 ys b2 e2 es) (l1 : xs.length ≤ 6) (l2 : ds.length ≤ 6) (l3 : ys.length ≤ 6) (l4 : es.length ≤ 6) (hb5 : Below W5.heap.size W5 w) :
    Calls Tryd.prog 31 #[.agg #[.bool s, .slice a1 xs.length c1, .slice a2 ds.length c2, .bool t, .slice b1 ys.length e1, .slice b2 es.length e2]] w (GotV W5 (.bool (rightB s xs ds && rightB t ys es))) := by
  obtain ⟨W0, hW0⟩ : ∃ W0, W0 = w.alloc (.cells #[.bool s, .slice a1 xs.length c1, .slice a2 ds.length c2, .bool t, .slice b1 ys.length e1, .slice b2 es.length e2] 38) := ⟨_, rfl⟩
  have hB0 : Below w.heap.size w W0 := by rw [hW0]; exact (Below.refl _ _).alloc (Nat.le_refl _) _
  have b0 : W0.heap[w.heap.size]? = some (.cells #[.bool s, .slice a1 xs.length c1, .slice a2 ds.length c2, .bool t, .slice b1 ys.length e1, .slice b2 es.length e2] 38 (0, 0)) := by rw [hW0]; exact heap_alloc_new w _
  have HC1 : Hid (∀ W, Below W0.heap.size W0 W → _) := Lib.hid fun W h => RightR_any' (s := s) ((hx.kept hB0).kept h) l1 l2
  have HC2 : Hid (∀ W, Below W0.heap.size W0 W → _) := Lib.hid fun W h => RightR_any' (s := t) ((hu.kept hB0).kept h) l3 l4
  have HK : Hid (∀ W, Below W0.heap.size W0 W → _) := Lib.hid fun W h => cells6 (stay b0 h)
  have HBL := Lib.hid (hb5.trans (hB0.mono hb5.size))
  have HW0 := Lib.hid hW0
  obtain ⟨k0, k1, k2, k3, k4, k5, _⟩ := HK.out W0 (Below.refl _ _)
  obtain ⟨p, hp⟩ : ∃ p, rightB s xs ds = p := ⟨_, rfl⟩
  obtain ⟨q, hq⟩ : ∃ q, rightB t ys es = q := ⟨_, rfl⟩
  rw [hp] at HC1
  rw [hq] at HC2
  rw [hp, hq]
  clear hW0 hB0 b0 hx hu l1 l2 l3 l4 hb5 hp hq
  go_enter Tryd.func31, Tryd.ntmps31
  go_wp2_with fail
  rw [← HW0.out]
  have HD := Lib.hid (HC1.out W0 (Below.refl _ _))
  cases p
  · refine HD.out.mono ?_
    rintro e w3 ⟨rfl, h3⟩
    have HE := Lib.hid (HBL.out.trans (h3.mono HBL.out.size))
    clear h3 HC1 HC2 HK HD
    go_wp2_with fail
    go_ret
    exact ⟨rfl, HE⟩
  · refine HD.out.mono ?_
    rintro e w3 ⟨rfl, h3⟩
    obtain ⟨k0, k1, k2, k3, k4, k5, _⟩ := HK.out _ h3
    have HC3 := Lib.hid (HC2.out _ h3)
    have HE1 := Lib.hid (HBL.out.trans (h3.mono HBL.out.size))
    clear h3 HC1 HC2 HK HD
    go_wp2_with fail
    refine HC3.out.mono ?_
    rintro e w4 ⟨rfl, h4⟩
    have HE := Lib.hid (HE1.out.trans (h4.mono HE1.out.size))
    clear h4 HC3
    go_wp2_with fail
    go_ret
    exact ⟨by rw [Bool.true_and]; rfl, HE⟩
end Go.Proofs.YtodedlnpokagfaaDoor


/-
  Numbers with a delta as texts: the document's and the program's.
-/
set_option linter.unusedVariables false
set_option linter.unusedSimpArgs false
namespace Go.Proofs.YtodedlnpokagfaaDoor
open Go.RowKit Rep


theorem sign_cases (r : Rat) : (r = 0 ∧ cmpQ r 0 = 0) ∨ (mgQ r ≠ 0 ∧ ngQ r = true ∧ cmpQ r 0 = -1) ∨ (mgQ r ≠ 0 ∧ ngQ r = false ∧ cmpQ r 0 = 1) := by
  have h := cmpQ_sub r 0
  rw [show r - 0 = r from by grind] at h
  by_cases h0 : mgQ r = 0
  · rw [if_pos h0] at h
    exact .inl ⟨mg_zero.1 h0, h⟩
  · rw [if_neg h0] at h
    cases hn : ngQ r
    · rw [hn, if_neg (by decide)] at h
      exact .inr (.inr ⟨h0, rfl, h⟩)
    · rw [hn, if_pos rfl] at h
      exact .inr (.inl ⟨h0, rfl, h⟩)
theorem text_neg {r : Rat} (h0 : mgQ r ≠ 0) (h : ngQ r = true) : textQ r = ⟨#[45]⟩ ++ textQ (-r) := by
  unfold textQ
  rw [neg_ng, if_neg h0, h, neg_mg, neg_den]
  cases decide (r.den = 1)
  · rw [textB_more, textB_more, if_pos rfl, if_neg (by decide), ByteArray.append_assoc]
  · rw [textB_one, textB_one, if_pos rfl, if_neg (by decide)]
theorem text_size {q : Rat} (h : szQ q ≤ 100) : (textQ q).size ≤ 5000 := by
  unfold szQ at h
  have h1 := dlen_L (n := mgQ q) (k := 100) (by omega)
  have h2 := dlen_L (n := denN q.den) (k := 100) (by omega)
  have h3 := tN_len (mgQ q)
  have h4 := tN_len (denN q.den)
  have e1 : (⟨#[45]⟩ : ByteArray).size = 1 := rfl
  have e2 : (⟨#[47]⟩ : ByteArray).size = 1 := rfl
  have e3 : (⟨#[]⟩ : ByteArray).size = 0 := rfl
  unfold textQ textB
  rw [ByteArray.size_append]
  split <;> split <;> simp only [ByteArray.size_append, e1, e2, e3] <;> omega
/-- A number with a delta as a text. -/
def textDQ (q r : Rat) : ByteArray := if r = 0 then textQ q else if ngQ r = true then textQ q ++ (textQ r ++ ⟨#[100]⟩) else textQ q ++ ((⟨#[43]⟩ ++ textQ r) ++ ⟨#[100]⟩)

end Go.Proofs.YtodedlnpokagfaaDoor


/-
  delta.byParts, with each of ratio's Add, Sub and Mul.
-/
set_option linter.unusedVariables false
set_option linter.unusedSimpArgs false
namespace Go.Proofs.YtodedlnpokagfaaDoor
open Go.RowKit Rep


theorem vq_z (W : World) : VQ 0 (false, (none, 0, 0), (none, 0, 0)) W := ⟨by decide, rfl, rfl, AtQ.zero W⟩
theorem grown_set6 {w W : World} {b r : Nat} (h : w.grownBy W (some b)) (hr : w.heap.size ≤ r) (s : Bool) (v1 v2 : Value) (t : Bool) (v3 v4 : Value) : w.grownBy (set6 W r s v1 v2 t v3 v4) (some b) := by
  have hg := set6_grown W r s v1 v2 t v3 v4
  exact ⟨hg.os.trans h.os, hg.tape.trans h.tape, hg.output.trans h.output, Nat.le_trans h.size hg.size, fun k hk hne => (hg.block k (Nat.lt_of_lt_of_le hk h.size) (by simp; omega)).trans (h.block k hk hne)⟩
theorem Bench.set6 {W : World} {b m r : Nat} {o : Bool} (h : Bench W b m o) (hne : b ≠ r) (s : Bool) (v1 v2 : Value) (t : Bool) (v3 v4 : Value) : Bench (Go.Proofs.YtodedlnpokagfaaDoor.set6 W r s v1 v2 t v3 v4) b m o := h.of_block ((set6_grown W r s v1 v2 t v3 v4).block b h.lt (by simpa using hne))
theorem Six.grown {W W' : World} {r b : Nat} {ty : TypeId} (h : Six W r ty) (hg : W.grownBy W' (some b)) (hne : r ≠ b) : Six W' r ty := (hg.block r (Array.getElem?_eq_some_iff.1 h).1 (by simpa using hne)).trans h
theorem VQ.bench {q : Rat} {v : RawR} {W W' : World} {b m : Nat} {o : Bool} (h : VQ q v W) (hb : Bench W b m o) (hg : W.grownBy W' (some b)) : VQ q v W' := ⟨h.e0, h.e1, h.e2, h.lies.bench hb hg⟩
/-- Behind the first call. -/
structure S1 (W0 : World) (b m : Nat) (q : Rat) (o : Bool) (x : RawR) (W : World) : Prop where
  vx : VQ q x W
  bench : Bench W b m o
  grown : W0.grownBy W (some b)
/-- Behind both calls. -/
structure S2 (W0 : World) (b m : Nat) (q r : Rat) (o : Bool) (x y : RawR) (W : World) : Prop where
  vx : VQ q x W
  vy : VQ r y W
  bench : Bench W b m o
  grown : W0.grownBy W (some b)
section
variable {W0 W : World} {b m : Nat} {q r : Rat} {o : Bool} {x y : RawR}
theorem S1.kept {W' : World} (h : S1 W0 b m q o x W) (hb : Below W.heap.size W W') : S1 W0 b m q o x W' := ⟨h.vx.kept hb, h.bench.kept hb, grownBy_trans' h.grown (grown_of_below hb _)⟩
theorem S2.kept {W' : World} (h : S2 W0 b m q r o x y W) (hb : Below W.heap.size W W') : S2 W0 b m q r o x y W' := ⟨h.vx.kept hb, h.vy.kept hb, h.bench.kept hb, grownBy_trans' h.grown (grown_of_below hb _)⟩
theorem S2.set6 {g : Nat} {ty : TypeId} (h : S2 W0 b m q r o x y W) (hb : Six W g ty) (hg : W0.heap.size ≤ g) (hne : b ≠ g) (s : Bool) (v1 v2 : Value) (t : Bool) (v3 v4 : Value) : S2 W0 b m q r o x y (Go.Proofs.YtodedlnpokagfaaDoor.set6 W g s v1 v2 t v3 v4) :=
  ⟨h.vx.set6 hb _ _ _ _ _ _, h.vy.set6 hb _ _ _ _ _ _, h.bench.set6 hne _ _ _ _ _ _, grown_set6 h.grown hg _ _ _ _ _ _⟩
/-- Behind the region: where both answers lie. -/
structure ByAt (W0 : World) (b m : Nat) (q r : Rat) (o : Bool) (i : Nat × RawR × RawR) (W : World) : Prop where
  lies : W.heap[i.1]? = some (.cells #[.bool i.2.1.1, .slice i.2.1.2.1.1 i.2.1.2.1.2.1 i.2.1.2.1.2.2, .slice i.2.1.2.2.1 i.2.1.2.2.2.1 i.2.1.2.2.2.2, .bool i.2.2.1, .slice i.2.2.2.1.1 i.2.2.2.1.2.1 i.2.2.2.1.2.2, .slice i.2.2.2.2.1 i.2.2.2.2.2.1 i.2.2.2.2.2.2] 38 (0, 0))
  t : S2 W0 b m q r o i.2.1 i.2.2 W
theorem S2.endA (h : S2 W0 b m q r o x y W) : ByAt W0 b m q r o (W.heap.size, x, y) (W.alloc (.cells #[.bool x.1, .slice x.2.1.1 x.2.1.2.1 x.2.1.2.2, .slice x.2.2.1 x.2.2.2.1 x.2.2.2.2, .bool y.1, .slice y.2.1.1 y.2.1.2.1 y.2.1.2.2, .slice y.2.2.1 y.2.2.2.1 y.2.2.2.2] 38)) := ⟨heap_alloc_new W _, h.kept ((Below.refl _ _).alloc (Nat.le_refl _) _)⟩
theorem S2.endB {g : Nat} (h : S2 W0 b m q r o x y W) (hb : Six W g 38) (hg : W0.heap.size ≤ g) (hne : b ≠ g) :
    ByAt W0 b m q r o (g, x, y) (Go.Proofs.YtodedlnpokagfaaDoor.set6 W g x.1 (.slice x.2.1.1 x.2.1.2.1 x.2.1.2.2) (.slice x.2.2.1 x.2.2.2.1 x.2.2.2.2) y.1 (.slice y.2.1.1 y.2.1.2.1 y.2.1.2.2) (.slice y.2.2.1 y.2.2.2.1 y.2.2.2.2)) := by
  refine ⟨?_, h.set6 hb hg hne _ _ _ _ _ _⟩
  unfold Six at hb
  simp [Go.Proofs.YtodedlnpokagfaaDoor.set6, World.setCell, Array.getElem?_modify, hb]
end
theorem farG {w W0 W : World} {b : Nat} (h : w.heap.size + 1 + 1 < W0.heap.size) (hb : W0.grownBy W (some b)) : w.heap.size ≠ W.heap.size ∧ W.heap.size ≠ w.heap.size ∧ w.heap.size + 1 ≠ W.heap.size ∧ W.heap.size ≠ w.heap.size + 1 := by
  have := hb.size
  omega
/-- A call gives both parts, as far as a bench lets them be (o: it is over). -/
def GivesQQ (b m : Nat) (o : Bool) (q r : Rat) (w : World) (e : Ending) (w' : World) : Prop :=
  ∃ s z1 m1 k1 z2 m2 k2 t y1 n1 j1 y2 n2 j2, e = .returned (.agg #[.bool s, .slice z1 m1 k1, .slice z2 m2 k2, .bool t, .slice y1 n1 j1, .slice y2 n2 j2]) ∧
    Hid (VQ (if o = true then 0 else q) (s, (z1, m1, k1), (z2, m2, k2)) w') ∧ Hid (VQ (if o = true then 0 else r) (t, (y1, n1, j1), (y2, n2, j2)) w') ∧ Hid (Bench w' b m o) ∧ Hid (w.grownBy w' (some b))
/-- What the first call of a reckoning by parts gives. -/
def First (f : FuncId) (w : World) (b m : Nat) (q : Rat) (o : Bool) (v1 v2 : Value) : Prop :=
  ∀ V W, Below w.heap.size w V → Below V.heap.size V W → Calls Tryd.prog f #[.pointer (some ⟨b, 0, none⟩), v1, v2] W fun e W' => ∃ s z1 m1 k1 z2 m2 k2, e = .returned (.agg #[.bool s, .slice z1 m1 k1, .slice z2 m2 k2]) ∧ Hid (S1 V b m q o (s, (z1, m1, k1), (z2, m2, k2)) W') ∧ Hid (W.grownBy W' (some b))
/-- What the second one gives. -/
def Second (f : FuncId) (w : World) (b m : Nat) (q r : Rat) (o o2 : Bool) (v1 v2 : Value) : Prop :=
  ∀ V W3 W x, Below w.heap.size w V → S1 V b m q o x W3 → Below W3.heap.size W3 W → Calls Tryd.prog f #[.pointer (some ⟨b, 0, none⟩), v1, v2] W fun e W' => ∃ s z1 m1 k1 z2 m2 k2, e = .returned (.agg #[.bool s, .slice z1 m1 k1, .slice z2 m2 k2]) ∧ Hid (S2 V b m q r o2 x (s, (z1, m1, k1), (z2, m2, k2)) W') ∧ Hid (W.grownBy W' (some b))
theorem fin_by {w W0 W : World} {b m r : Nat} {o : Bool} {qa qb : Rat} {s t : Bool} {z1 z2 y1 y2 : Option Addr} {m1 k1 m2 k2 n1 j1 n2 j2 : Nat} (hB0 : Below w.heap.size w W0) (hr : w.heap.size ≤ r) (hb : Six W r 38) (hne : b ≠ r) (hg : W0.grownBy W (some b)) (hbe : Bench W b m o)
    (h1 : VQ (if o = true then 0 else qa) (s, (z1, m1, k1), (z2, m2, k2)) W) (h2 : VQ (if o = true then 0 else qb) (t, (y1, n1, j1), (y2, n2, j2)) W) :
    GivesQQ b m o qa qb w (.returned (.agg #[.bool s, .slice z1 m1 k1, .slice z2 m2 k2, .bool t, .slice y1 n1 j1, .slice y2 n2 j2])) (set6 W r s (.slice z1 m1 k1) (.slice z2 m2 k2) t (.slice y1 n1 j1) (.slice y2 n2 j2)) :=
  ⟨s, z1, m1, k1, z2, m2, k2, t, y1, n1, j1, y2, n2, j2, rfl, Lib.hid (h1.set6 hb _ _ _ _ _ _), Lib.hid (h2.set6 hb _ _ _ _ _ _), Lib.hid (hbe.set6 hne _ _ _ _ _ _), Lib.hid (grown_set6 (grownBy_trans' (grown_of_below hB0 _) hg) hr _ _ _ _ _ _)⟩

end Go.Proofs.YtodedlnpokagfaaDoor


/-
  delta.byParts with ratio's Sub.
-/
set_option linter.unusedVariables false
set_option linter.unusedSimpArgs false
namespace Go.Proofs.YtodedlnpokagfaaDoor
open Go.RowKit Rep


end Go.Proofs.YtodedlnpokagfaaDoor


/-
  delta.byParts with ratio's Mul.
-/
set_option linter.unusedVariables false
set_option linter.unusedSimpArgs false
namespace Go.Proofs.YtodedlnpokagfaaDoor
open Go.RowKit Rep


end Go.Proofs.YtodedlnpokagfaaDoor


/-
  delta.Add, Sub and Scale.
-/
set_option linter.unusedVariables false
set_option linter.unusedSimpArgs false
namespace Go.Proofs.YtodedlnpokagfaaDoor
open Go.RowKit Rep


theorem out_if {m : Nat} {q : Rat} {o : Bool} (h : o = false → ovQ m q = false) : (if o = true then (0 : Rat) else outQ m q) = if o = true then 0 else q := by
  cases o
  · have := h rfl
    unfold outQ
    simp [this]
  · rfl
theorem GivesQQ.through {b m r : Nat} {o : Bool} {q p : Rat} {w W W' : World} {e : Ending} (h : GivesQQ b m o q p W e W') (hB0 : Below w.heap.size w W) (hr : w.heap.size ≤ r) (hb : Six W r 38) (hne : b ≠ r) :
    ∃ s z1 m1 k1 z2 m2 k2 t y1 n1 j1 y2 n2 j2, e = .returned (.agg #[.bool s, .slice z1 m1 k1, .slice z2 m2 k2, .bool t, .slice y1 n1 j1, .slice y2 n2 j2]) ∧ Hid (Six W' r 38) ∧
      Hid (GivesQQ b m o q p w (.returned (.agg #[.bool s, .slice z1 m1 k1, .slice z2 m2 k2, .bool t, .slice y1 n1 j1, .slice y2 n2 j2])) (set6 W' r s (.slice z1 m1 k1) (.slice z2 m2 k2) t (.slice y1 n1 j1) (.slice y2 n2 j2))) := by
  obtain ⟨s, z1, m1, k1, z2, m2, k2, t, y1, n1, j1, y2, n2, j2, rfl, h1, h2, h3, h4⟩ := h
  have hs := hb.grown h4.out (Ne.symm hne)
  exact ⟨s, z1, m1, k1, z2, m2, k2, t, y1, n1, j1, y2, n2, j2, rfl, Lib.hid hs, Lib.hid (fin_by hB0 hr hs hne h4.out h3.out h1.out h2.out)⟩

end Go.Proofs.YtodedlnpokagfaaDoor


/-
  law03's helper Odd.
-/
set_option linter.unusedVariables false
set_option linter.unusedSimpArgs false
namespace Go.Proofs.YtodedlnpokagfaaDoor
open Go.RowKit Rep

/-- A number with a delta as a law is handed it. -/
structure HD where
  s : Bool
  a1 : Option Addr
  c1 : Nat
  xs : List Nat
  a2 : Option Addr
  c2 : Nat
  ds : List Nat
  t : Bool
  b1 : Option Addr
  e1 : Nat
  ys : List Nat
  b2 : Option Addr
  e2 : Nat
  es : List Nat
def HD.ra (d : HD) : RawR := (d.s, (d.a1, d.xs.length, d.c1), (d.a2, d.ds.length, d.c2))
def HD.rb (d : HD) : RawR := (d.t, (d.b1, d.ys.length, d.e1), (d.b2, d.es.length, d.e2))
structure HandD (w : World) (d : HD) : Prop where
  a : HandR w d.a1 d.c1 d.xs d.a2 d.c2 d.ds
  b : HandR w d.b1 d.e1 d.ys d.b2 d.e2 d.es
theorem HandD.kept {w w' : World} {d : HD} (h : HandD w d) (hb : Below w.heap.size w w') : HandD w' d := ⟨h.a.kept hb, h.b.kept hb⟩
/-- Is one not in its one form, or more than is looked at? -/
def oddE (d : HD) : Bool := greatB [d.ra, d.rb] || !(rightB d.s d.xs d.ds && rightB d.t d.ys d.es)
/-- From block g's beginning on lie such numbers. -/
def Dels (w : World) (g : Nat) (ts : List HD) : Prop := ∀ k d, ts[k]? = some d →
  w.cell? ⟨g, k * 6, none⟩ = some (.bool d.s) ∧ w.cell? ⟨g, k * 6 + 1, none⟩ = some (.slice d.a1 d.xs.length d.c1) ∧ w.cell? ⟨g, k * 6 + 2, none⟩ = some (.slice d.a2 d.ds.length d.c2) ∧
  w.cell? ⟨g, k * 6 + 3, none⟩ = some (.bool d.t) ∧ w.cell? ⟨g, k * 6 + 4, none⟩ = some (.slice d.b1 d.ys.length d.e1) ∧ w.cell? ⟨g, k * 6 + 5, none⟩ = some (.slice d.b2 d.es.length d.e2)

set_option maxRecDepth 100000 in
set_option maxHeartbeats 4000000 in
theorem Odd_any (g c : Nat) (ts : List HD) (w : World) (hr : Dels w g ts) (hh : ∀ d ∈ ts, HandD w d) (hg : g < w.heap.size) (hl : ts.length ≤ 1000) :
    Calls Tryd.prog 13 #[.slice (some ⟨g, 0, none⟩) ts.length c] w (GivesB (ts.any oddE) w) := by
  go_enter Tryd.func13, Tryd.ntmps13
  go_wp2_with fail
  go_loopw [7] (fun i wr => ∃ k : Nat, k ≤ ts.length ∧ i = .int .i64 k ∧ Hid ((ts.take k).any oddE = false) ∧ Below w.heap.size w wr) (fun i _ => ts.length - (intOf i).toNat)
  case atStart => exact ⟨0, Nat.zero_le _, rfl, Lib.hid rfl, Below.refl _ _⟩
  case round =>
    obtain ⟨k, hk, rfl, HE, hb⟩ := hrel
    by_cases hlt : k < ts.length
    · obtain ⟨c0, c1, c2, c3, c4, c5⟩ := hr k ts[k] (List.getElem?_eq_getElem hlt)
      have HT : Hid (ts.take (k + 1) = ts.take k ++ [ts[k]]) := Lib.hid (List.take_succ_eq_append_getElem hlt)
      have HM : Hid (ts[k] ∈ ts) := Lib.hid (List.getElem_mem hlt)
      have HH := Lib.hid (hh ts[k] (List.getElem_mem hlt))
      generalize ts[k] = d at c0 c1 c2 c3 c4 c5 HT HM HH
      obtain ⟨s, a1, x1, xs, a2, x2, ds, t, b1, y1, ys, b2, y2, es⟩ := d
      dsimp only at c0 c1 c2 c3 c4 c5
      have d0 := (hb.cell (p := ⟨g, k * 6, none⟩) hg).trans c0
      have d1 := (hb.cell (p := ⟨g, k * 6 + 1, none⟩) hg).trans c1
      have d2 := (hb.cell (p := ⟨g, k * 6 + 2, none⟩) hg).trans c2
      have d3 := (hb.cell (p := ⟨g, k * 6 + 3, none⟩) hg).trans c3
      have d4 := (hb.cell (p := ⟨g, k * 6 + 4, none⟩) hg).trans c4
      have d5 := (hb.cell (p := ⟨g, k * 6 + 5, none⟩) hg).trans c5
      have HB := Lib.hid hb
      have hgr : g < wr.heap.size := World.block_lt_of_cell? _ _ d0
      have ha1 := (Below.refl wr.heap.size wr).alloc (Nat.le_refl _) (.cells #[.bool s, .slice a1 xs.length x1, .slice a2 ds.length x2, .bool t, .slice b1 ys.length y1, .slice b2 es.length y2] 38)
      have ha2 := ha1.alloc ha1.size (.cells #[.bool s, .slice a1 xs.length x1, .slice a2 ds.length x2, .bool t, .slice b1 ys.length y1, .slice b2 es.length y2] 36)
      have hbl : ((wr.alloc (.cells #[.bool s, .slice a1 xs.length x1, .slice a2 ds.length x2, .bool t, .slice b1 ys.length y1, .slice b2 es.length y2] 38)).alloc (.cells #[.bool s, .slice a1 xs.length x1, .slice a2 ds.length x2, .bool t, .slice b1 ys.length y1, .slice b2 es.length y2] 36)).heap[wr.heap.size]? = some (.cells #[.bool s, .slice a1 xs.length x1, .slice a2 ds.length x2, .bool t, .slice b1 ys.length y1, .slice b2 es.length y2] 38 (0, 0)) := by
        rw [Below.heap_alloc _ _ _ (by simp)]; exact heap_alloc_new wr _
      have HG : Hid (Calls Tryd.prog 30 #[.slice (some ⟨wr.heap.size + 1, 0, none⟩) 2 2] ((wr.alloc (.cells #[.bool s, .slice a1 xs.length x1, .slice a2 ds.length x2, .bool t, .slice b1 ys.length y1, .slice b2 es.length y2] 38)).alloc (.cells #[.bool s, .slice a1 xs.length x1, .slice a2 ds.length x2, .bool t, .slice b1 ys.length y1, .slice b2 es.length y2] 36)) (GivesB (greatB [(s, (a1, xs.length, x1), (a2, ds.length, x2)), (t, (b1, ys.length, y1), (b2, es.length, y2))]) ((wr.alloc (.cells #[.bool s, .slice a1 xs.length x1, .slice a2 ds.length x2, .bool t, .slice b1 ys.length y1, .slice b2 es.length y2] 38)).alloc (.cells #[.bool s, .slice a1 xs.length x1, .slice a2 ds.length x2, .bool t, .slice b1 ys.length y1, .slice b2 es.length y2] 36)))) := Lib.hid (by
        have hn := heap_alloc_new (wr.alloc (.cells #[.bool s, .slice a1 xs.length x1, .slice a2 ds.length x2, .bool t, .slice b1 ys.length y1, .slice b2 es.length y2] 38)) (.cells #[.bool s, .slice a1 xs.length x1, .slice a2 ds.length x2, .bool t, .slice b1 ys.length y1, .slice b2 es.length y2] 36)
        rw [World.size_alloc] at hn
        exact Great_any (wr.heap.size + 1) 2 [(s, (a1, xs.length, x1), (a2, ds.length, x2)), (t, (b1, ys.length, y1), (b2, es.length, y2))] _ (Rats.two hn) (by simp) (by simp))
      have HA2 := Lib.hid ha2
      have HBL := Lib.hid (fun W h => cells6 (stay (W := W) hbl h))
      clear hb c0 c1 c2 c3 c4 c5 hr hh ha1 ha2 hbl
      cases hgr2 : greatB [(s, (a1, xs.length, x1), (a2, ds.length, x2)), (t, (b1, ys.length, y1), (b2, es.length, y2))]
      case true =>
        have HV : Hid (ts.any oddE = true) := Lib.hid (List.any_eq_true.2 ⟨_, HM.out, by unfold oddE HD.ra HD.rb; dsimp only; rw [hgr2]; rfl⟩)
        rw [hgr2] at HG
        clear hgr2 HE HT HM
        go_wp2_with fail
        refine HG.out.mono ?_
        rintro e w3 ⟨rfl, h3⟩
        have HF := Lib.hid (HB.out.trans ((HA2.out.trans (h3.mono HA2.out.size)).mono HB.out.size))
        clear h3 HG
        go_wp2_with fail
        go_ret
        exact ⟨by rw [HV.out]; rfl, HF.out⟩
      case false =>
        obtain ⟨l1, l2, l3, l4⟩ := great_two hgr2
        rw [hgr2] at HG
        obtain ⟨p, hp⟩ : ∃ p, (rightB s xs ds && rightB t ys es) = p := ⟨_, rfl⟩
        have HRT : Hid (∀ W, Below wr.heap.size wr W → Calls Tryd.prog 31 #[.agg #[.bool s, .slice a1 xs.length x1, .slice a2 ds.length x2, .bool t, .slice b1 ys.length y1, .slice b2 es.length y2]] W (GotV wr (.bool p))) := Lib.hid fun W h => by
          rw [← hp]
          exact RightDD (((HH.out.kept HB.out).kept h).a) (((HH.out.kept HB.out).kept h).b) l1 l2 l3 l4 h
        have HOE : Hid (oddE ⟨s, a1, x1, xs, a2, x2, ds, t, b1, y1, ys, b2, y2, es⟩ = !p) := Lib.hid (by unfold oddE HD.ra HD.rb; dsimp only; rw [hgr2, hp]; rfl)
        clear hgr2 hp l1 l2 l3 l4 HH
        go_wp2_with fail
        refine HG.out.mono ?_
        rintro e w3 ⟨rfl, h3⟩
        have HF := Lib.hid (HA2.out.trans (h3.mono HA2.out.size))
        obtain ⟨k0, k1, k2, k3, k4, k5, _⟩ := HBL.out _ h3
        have HR3 := Lib.hid (HRT.out _ HF.out)
        clear h3 HG HBL HRT HA2
        cases p
        case false =>
          have HV : Hid (ts.any oddE = true) := Lib.hid (List.any_eq_true.2 ⟨_, HM.out, by rw [HOE.out]; rfl⟩)
          clear HE HT HM HOE
          go_wp2_with fail
          refine HR3.out.mono ?_
          rintro e w4 ⟨rfl, G4⟩
          have HF4 := Lib.hid (HB.out.trans (G4.out.mono HB.out.size))
          clear G4 HR3 HF
          go_wp2_with fail
          go_ret
          exact ⟨by rw [HV.out]; rfl, HF4.out⟩
        case true =>
          have HV : Hid ((ts.take (k + 1)).any oddE = false) := Lib.hid (by
            rw [HT.out, List.any_append, HE.out]
            simp [HOE.out])
          clear HE HT HM HOE
          go_wp2_with fail
          refine HR3.out.mono ?_
          rintro e w4 ⟨rfl, G4⟩
          have HF4 := Lib.hid (HB.out.trans (G4.out.mono HB.out.size))
          clear G4 HR3 HF
          go_wp2_with fail
          go_roundw
          case rel => exact ⟨k + 1, by omega, by go_num, HV, HF4.out⟩
          case measure => simp [intOf]; omega
    · obtain rfl : k = ts.length := by omega
      have HB := Lib.hid hb
      clear hb hr hh
      go_wp2_with fail
      go_ret
      exact ⟨by have := HE.out; rw [List.take_length] at this; rw [this]; rfl, HB.out⟩
end Go.Proofs.YtodedlnpokagfaaDoor


/-
  law04: things that a law is handed; great.
-/
set_option linter.unusedVariables false
set_option linter.unusedSimpArgs false
namespace Go.Proofs.YtodedlnpokagfaaDoor
open Go.RowKit Rep

/-- A thing as a law is handed it. -/
structure TD where
  kind : Int
  n : Int
  b : Option Addr
  cb : Nat
  bs : List Nat
  x : HD
  l : Option Addr
  cl : Nat
  ls : List Nat
structure HandT (w : World) (t : TD) : Prop where
  kind : -9223372036854775808 ≤ t.kind ∧ t.kind ≤ 9223372036854775807
  n : -9223372036854775808 ≤ t.n ∧ t.n ≤ 9223372036854775807
  b : Reads w t.b (t.bs.map u8v)
  byt : Pk.Byt t.bs
  bc : t.bs.length ≤ t.cb ∧ t.cb ≤ maxLen
  x : HandD w t.x
  l : Reads w t.l (t.ls.map n64v)
  lim : ∀ m ∈ t.ls, m < 18446744073709551616
  lc : t.ls.length ≤ t.cl ∧ t.cl ≤ maxLen
theorem HandT.kept {w w' : World} {t : TD} (h : HandT w t) (hb : Below w.heap.size w w') : HandT w' t := ⟨h.kind, h.n, h.b.kept hb, h.byt, h.bc, h.x.kept hb, h.l.kept hb, h.lim, h.lc⟩
def TD.vals (t : TD) : List Value := [.int .i64 t.kind, .int .i64 t.n, .slice t.b t.bs.length t.cb, .bool t.x.s, .slice t.x.a1 t.x.xs.length t.x.c1, .slice t.x.a2 t.x.ds.length t.x.c2, .bool t.x.t, .slice t.x.b1 t.x.ys.length t.x.e1, .slice t.x.b2 t.x.es.length t.x.e2, .slice t.l t.ls.length t.cl]
structure ThingsIn (W : World) (a : Option Addr) (c : Nat) (ts : List TD) : Prop where
  le : ts.length ≤ c
  max : c ≤ maxLen
  mem : ts = [] ∨ ∃ g off, a = some ⟨g, off, none⟩ ∧ ∀ k p, ts[k]? = some p → ∀ j v, p.vals[j]? = some v → W.cell? ⟨g, off + (k * 10 + j), none⟩ = some v
theorem ThingsIn.kept {W W' : World} {a : Option Addr} {c : Nat} {ts : List TD} (h : ThingsIn W a c ts) (hb : Below W.heap.size W W') : ThingsIn W' a c ts := by
  refine ⟨h.le, h.max, ?_⟩
  rcases h.mem with h1 | ⟨g, off, h1, h2⟩
  · exact .inl h1
  · refine .inr ⟨g, off, h1, fun k p hk j v hv => ?_⟩
    have h3 := h2 k p hk j v hv
    rw [hb.cell (World.block_lt_of_cell? _ _ h3)]
    exact h3
/-- The cells of thing k, as letters. -/
theorem ThingsIn.letters {W : World} {a : Option Addr} {c : Nat} {ts : List TD} (h : ThingsIn W a c ts) {k : Nat} (hk : k < ts.length) : ∃ g off, a = some ⟨g, off, none⟩ ∧ g < W.heap.size ∧
    W.cell? ⟨g, off + k * 10, none⟩ = some (.int .i64 ts[k].kind) ∧
    W.cell? ⟨g, off + k * 10 + 1, none⟩ = some (.int .i64 ts[k].n) ∧
    W.cell? ⟨g, off + k * 10 + 2, none⟩ = some (.slice ts[k].b ts[k].bs.length ts[k].cb) ∧
    W.cell? ⟨g, off + k * 10 + 3, none⟩ = some (.bool ts[k].x.s) ∧
    W.cell? ⟨g, off + k * 10 + 4, none⟩ = some (.slice ts[k].x.a1 ts[k].x.xs.length ts[k].x.c1) ∧
    W.cell? ⟨g, off + k * 10 + 5, none⟩ = some (.slice ts[k].x.a2 ts[k].x.ds.length ts[k].x.c2) ∧
    W.cell? ⟨g, off + k * 10 + 6, none⟩ = some (.bool ts[k].x.t) ∧
    W.cell? ⟨g, off + k * 10 + 7, none⟩ = some (.slice ts[k].x.b1 ts[k].x.ys.length ts[k].x.e1) ∧
    W.cell? ⟨g, off + k * 10 + 8, none⟩ = some (.slice ts[k].x.b2 ts[k].x.es.length ts[k].x.e2) ∧
    W.cell? ⟨g, off + k * 10 + 9, none⟩ = some (.slice ts[k].l ts[k].ls.length ts[k].cl) := by
  rcases h.mem with h1 | ⟨g, off, h1, h2⟩
  · subst h1; simp at hk
  · have h3 := h2 k ts[k] (List.getElem?_eq_getElem hk)
    refine ⟨g, off, h1, World.block_lt_of_cell? _ _ (h3 0 _ rfl), h3 0 _ rfl, (by rw [Nat.add_assoc]; exact h3 1 _ rfl), (by rw [Nat.add_assoc]; exact h3 2 _ rfl), (by rw [Nat.add_assoc]; exact h3 3 _ rfl), (by rw [Nat.add_assoc]; exact h3 4 _ rfl), (by rw [Nat.add_assoc]; exact h3 5 _ rfl), (by rw [Nat.add_assoc]; exact h3 6 _ rfl), (by rw [Nat.add_assoc]; exact h3 7 _ rfl), (by rw [Nat.add_assoc]; exact h3 8 _ rfl), (by rw [Nat.add_assoc]; exact h3 9 _ rfl)⟩
/-- Is a thing more than is looked at? -/
def greatT (t : TD) : Bool := decide (300 < t.bs.length) || decide (60 < t.ls.length) || oddE t.x
def greatL (ts : List TD) : Bool := decide (40 < ts.length) || ts.any greatT
theorem Dels.one' {W : World} {g : Nat} {d : HD} (h : W.heap[g]? = some (.cells #[.bool d.s, .slice d.a1 d.xs.length d.c1, .slice d.a2 d.ds.length d.c2, .bool d.t, .slice d.b1 d.ys.length d.e1, .slice d.b2 d.es.length d.e2] 38 (0, 0))) : Dels W g [d] := by
  intro k d' hk
  rcases k with _ | k
  · simp only [List.getElem?_cons_zero, Option.some.injEq] at hk
    subst hk
    obtain ⟨a0, a1, a2, a3, a4, a5, _⟩ := cells6 h
    exact ⟨by simpa using a0, by simpa using a1, by simpa using a2, by simpa using a3, by simpa using a4, by simpa using a5⟩
  · simp at hk
theorem cells10 {w : World} {r : Nat} {v0 v1 v2 v3 v4 v5 v6 v7 v8 v9 : Value} {t : TypeId} (h : w.heap[r]? = some (.cells #[v0, v1, v2, v3, v4, v5, v6, v7, v8, v9] t (0, 0))) :
    w.cell? ⟨r, 0, none⟩ = some v0 ∧ w.cell? ⟨r, 1, none⟩ = some v1 ∧ w.cell? ⟨r, 2, none⟩ = some v2 ∧ w.cell? ⟨r, 3, none⟩ = some v3 ∧ w.cell? ⟨r, 4, none⟩ = some v4 ∧ w.cell? ⟨r, 5, none⟩ = some v5 ∧ w.cell? ⟨r, 6, none⟩ = some v6 ∧ w.cell? ⟨r, 7, none⟩ = some v7 ∧ w.cell? ⟨r, 8, none⟩ = some v8 ∧ w.cell? ⟨r, 9, none⟩ = some v9 := by
  refine ⟨?_, ?_, ?_, ?_, ?_, ?_, ?_, ?_, ?_, ?_⟩
  all_goals simp [World.cell?, h]

set_option maxRecDepth 100000 in
set_option maxHeartbeats 4000000 in
theorem great04_any {a : Option Addr} {c : Nat} {ts : List TD} {w : World} (hp : ThingsIn w a c ts) (hh : ∀ t ∈ ts, HandT w t) :
    Calls Tryd.prog 5 #[.slice a ts.length c] w (GivesB (greatL ts) w) := by
  have hle := hp.le
  have hmax := hp.max
  unfold maxLen at hmax
  by_cases h40 : 40 < ts.length
  · have hd : decide ((40 : Int) < (ts.length : Int)) = true := decide_eq_true (by omega)
    have HG : Hid (greatL ts = true) := Lib.hid (by unfold greatL; rw [decide_eq_true h40]; rfl)
    clear hp hh
    go_enter Tryd.func5, Tryd.ntmps5
    go_wp2_with fail
    go_ret
    exact ⟨by rw [HG.out]; rfl, Below.refl _ _⟩
  · have hd : decide ((40 : Int) < (ts.length : Int)) = false := decide_eq_false (by omega)
    have HG : Hid (greatL ts = ts.any greatT) := Lib.hid (by unfold greatL; rw [decide_eq_false h40]; rfl)
    have HP := Lib.hid hp
    have HH := Lib.hid hh
    clear hp hh
    go_enter Tryd.func5, Tryd.ntmps5
    go_wp2_with fail
    go_loopw [10] (fun i wr => ∃ k : Nat, k ≤ ts.length ∧ i = .int .i64 k ∧ Hid ((ts.take k).any greatT = false) ∧ Below w.heap.size w wr) (fun i _ => ts.length - (intOf i).toNat)
    case atStart => exact ⟨0, Nat.zero_le _, rfl, Lib.hid rfl, Below.refl _ _⟩
    case round =>
      obtain ⟨k, hk, rfl, HE, hb⟩ := hrel
      by_cases hlt : k < ts.length
      · obtain ⟨g, off, rfl, hgl, d0, d1, d2, d3, d4, d5, d6, d7, d8, d9⟩ := (HP.out.kept hb).letters hlt
        have HT : Hid (ts.take (k + 1) = ts.take k ++ [ts[k]]) := Lib.hid (List.take_succ_eq_append_getElem hlt)
        have HM : Hid (ts[k] ∈ ts) := Lib.hid (List.getElem_mem hlt)
        have HHK := Lib.hid ((HH.out ts[k] (List.getElem_mem hlt)).kept hb)
        generalize ts[k] = t at *
        obtain ⟨kd, nn, ba, bc, bs, ⟨xs, xa, xc, xl, xb, xe, xk, us, ua, uc, ul, ub, ue, uk⟩, la, lc, ls⟩ := t
        dsimp only at d0 d1 d2 d3 d4 d5 d6 d7 d8 d9
        have hbc := HHK.out.bc
        have hlc := HHK.out.lc
        dsimp only at hbc hlc
        unfold maxLen at hbc hlc
        obtain ⟨q1, q2⟩ := hbc
        obtain ⟨q3, q4⟩ := hlc
        have HBW := Lib.hid hb
        obtain ⟨W1, hW1⟩ : ∃ W1, W1 = wr.alloc (.cells #[.int .i64 kd, .int .i64 nn, .slice ba bs.length bc, .bool xs, .slice xa xl.length xc, .slice xb xk.length xe, .bool us, .slice ua ul.length uc, .slice ub uk.length ue, .slice la ls.length lc] 41) := ⟨_, rfl⟩
        have hb1 : Below wr.heap.size wr W1 := by rw [hW1]; exact (Below.refl _ _).alloc (Nat.le_refl _) _
        have hW1b : W1.heap[wr.heap.size]? = some (.cells #[.int .i64 kd, .int .i64 nn, .slice ba bs.length bc, .bool xs, .slice xa xl.length xc, .slice xb xk.length xe, .bool us, .slice ua ul.length uc, .slice ub uk.length ue, .slice la ls.length lc] 41 (0, 0)) := by rw [hW1]; exact heap_alloc_new wr _
        have HB1 := Lib.hid hb1
        have HE1 := Lib.hid (hb.trans (hb1.mono hb.size))
        have HW1 := Lib.hid hW1
        have HODD : Hid (Calls Tryd.prog 13 #[.slice (some ⟨W1.heap.size, 0, none⟩) 1 1] (W1.alloc (.cells #[.bool xs, .slice xa xl.length xc, .slice xb xk.length xe, .bool us, .slice ua ul.length uc, .slice ub uk.length ue] 38)) (GivesB ([(⟨xs, xa, xc, xl, xb, xe, xk, us, ua, uc, ul, ub, ue, uk⟩ : HD)].any oddE) (W1.alloc (.cells #[.bool xs, .slice xa xl.length xc, .slice xb xk.length xe, .bool us, .slice ua ul.length uc, .slice ub uk.length ue] 38)))) := Lib.hid (by
          have hbb := (Below.refl W1.heap.size W1).alloc (Nat.le_refl _) (.cells #[.bool xs, .slice xa xl.length xc, .slice xb xk.length xe, .bool us, .slice ua ul.length uc, .slice ub uk.length ue] 38)
          refine Odd_any W1.heap.size 1 [_] _ (Dels.one' (heap_alloc_new W1 _)) (fun d hd => ?_) (by simp) (by simp)
          simp only [List.mem_singleton] at hd
          subst hd
          exact (HHK.out.x.kept hb1).kept hbb)
        have HEO := Lib.hid ((Below.refl W1.heap.size W1).alloc (Nat.le_refl _) (.cells #[.bool xs, .slice xa xl.length xc, .slice xb xk.length xe, .bool us, .slice ua ul.length uc, .slice ub uk.length ue] 38))
        obtain ⟨o, ho⟩ : ∃ o, oddE ⟨xs, xa, xc, xl, xb, xe, xk, us, ua, uc, ul, ub, ue, uk⟩ = o := ⟨_, rfl⟩
        have HGT : Hid (greatT ⟨kd, nn, ba, bc, bs, ⟨xs, xa, xc, xl, xb, xe, xk, us, ua, uc, ul, ub, ue, uk⟩, la, lc, ls⟩ = (decide (300 < bs.length) || decide (60 < ls.length) || o)) := Lib.hid (by rw [← ho]; rfl)
        rw [List.any_cons, List.any_nil, ho, Bool.or_false] at HODD
        have HTRUE : Hid ((decide (300 < bs.length) || decide (60 < ls.length) || o) = true → ts.any greatT = true) := Lib.hid fun h => List.any_eq_true.2 ⟨_, HM.out, by rw [HGT.out]; exact h⟩
        have HFALSE : Hid ((decide (300 < bs.length) || decide (60 < ls.length) || o) = false → (ts.take (k + 1)).any greatT = false) := Lib.hid fun h => by
          rw [HT.out, List.any_append, HE.out]
          simp [HGT.out, h]
        obtain ⟨k0, k1, k2, k3, k4, k5, k6, k7, k8, k9⟩ := cells10 hW1b
        have hz1 : W1.heap.size = wr.heap.size + 1 := by rw [hW1]; simp
        clear hb hb1 hW1b hW1 HHK HM HT HE ho HGT
        by_cases h300 : 300 < bs.length
        · have hd3 : decide ((300 : Int) < (bs.length : Int)) = true := decide_eq_true (by omega)
          have HV := Lib.hid (HTRUE.out (by rw [decide_eq_true h300]; rfl))
          clear HTRUE HFALSE HODD HEO hz1
          go_wp2_with fail
          rw [← HW1.out]
          go_wp2_with fail
          go_ret
          exact ⟨by rw [HG.out, HV.out]; rfl, HE1.out⟩
        · have hd3 : decide ((300 : Int) < (bs.length : Int)) = false := decide_eq_false (by omega)
          by_cases h60 : 60 < ls.length
          · have hd6 : decide ((60 : Int) < (ls.length : Int)) = true := decide_eq_true (by omega)
            have HV := Lib.hid (HTRUE.out (by rw [decide_eq_true h60, Bool.or_true]; rfl))
            clear HTRUE HFALSE HODD HEO hz1
            go_wp2_with fail
            rw [← HW1.out]
            go_wp2_with fail
            go_ret
            exact ⟨by rw [HG.out, HV.out]; rfl, HE1.out⟩
          · have hd6 : decide ((60 : Int) < (ls.length : Int)) = false := decide_eq_false (by omega)
            have HV1 : Hid (o = true → ts.any greatT = true) := Lib.hid fun h => HTRUE.out (by rw [h, Bool.or_true])
            have HV2 : Hid (o = false → (ts.take (k + 1)).any greatT = false) := Lib.hid fun h => HFALSE.out (by rw [h, decide_eq_false h300, decide_eq_false h60]; rfl)
            clear HTRUE HFALSE
            rw [hz1] at HODD
            clear hz1
            go_wp2_with fail
            rw [← HW1.out]
            refine HODD.out.mono ?_
            rintro e w5 ⟨rfl, h5⟩
            have HF := Lib.hid (HE1.out.trans ((HEO.out.trans (h5.mono HEO.out.size)).mono HE1.out.size))
            clear h5 HODD HEO
            cases o
            case true =>
              have HV := Lib.hid (HV1.out rfl)
              clear HV1 HV2
              go_wp2_with fail
              go_ret
              exact ⟨by rw [HG.out, HV.out]; rfl, HF.out⟩
            case false =>
              have HV := Lib.hid (HV2.out rfl)
              clear HV1 HV2
              go_wp2_with fail
              go_roundw
              case rel => exact ⟨k + 1, by omega, by go_num, HV, HF.out⟩
              case measure => simp [intOf]; omega
      · obtain rfl : k = ts.length := by omega
        have HV : Hid (greatL ts = false) := Lib.hid (by rw [HG.out]; have := HE.out; rwa [List.take_length] at this)
        have HBW := Lib.hid hb
        clear hb HE
        go_wp2_with fail
        go_ret
        exact ⟨by rw [HV.out]; rfl, HBW.out⟩
end Go.Proofs.YtodedlnpokagfaaDoor


/-
  law04: an Out and the document's row, side by side.
-/
set_option linter.unusedVariables false
set_option linter.unusedSimpArgs false
namespace Go.Proofs.YtodedlnpokagfaaDoor
open Go.RowKit Rep

/-- An Out of bs in blocks S, and a row of os at a, all newer than w0. -/
structure PSt (w0 w : World) (o : Nat) (S : Nat → Prop) (bs : List Nat) (a : Option Addr) (c : Nat) (os : List Nat) : Prop where
  out : OutSt w o S bs
  lt : ∀ j, S j → j < w.heap.size
  ge : ∀ j, S j → w0.heap.size ≤ j
  own : OwnR 5 u8v 0 w a c os
  rge : ∀ j, blk a = some j → w0.heap.size ≤ j
  apart : ∀ j, blk a = some j → ¬ S j
  below : Below w0.heap.size w0 w
theorem OwnR.blt {w : World} {a : Option Addr} {c : Nat} {bs : List Nat} (h : OwnR 5 u8v 0 w a c bs) : ∀ j, blk a = some j → j < w.heap.size := by
  obtain ⟨_, ⟨rfl, _⟩ | ⟨g, rfl, _, hr⟩⟩ := h
  · intro j e; cases e
  · intro j e; cases e; exact hr.lt
theorem OwnR.chg {w w' : World} {S : Nat → Prop} {a : Option Addr} {c : Nat} {bs : List Nat} (h : OwnR 5 u8v 0 w a c bs) (hc : Chg S w w') (hn : ∀ j, blk a = some j → ¬ S j) : OwnR 5 u8v 0 w' a c bs := by
  obtain ⟨q1, q2 | ⟨g, rfl, hg, hr⟩⟩ := h
  · exact ⟨q1, .inl q2⟩
  · exact ⟨q1, .inr ⟨g, rfl, hg, hr.of_block (hc.block _ hr.lt (hn g rfl))⟩⟩
theorem Chg.below {B : Nat} {w w' : World} {S : Nat → Prop} (h : Chg S w w') (hB : B ≤ w.heap.size) (hS : ∀ j, S j → B ≤ j) : Below B w w' :=
  ⟨h.os, h.tape, h.output, h.size, fun k hk => h.block k (by omega) (fun e => by have := hS k e; omega)⟩
section
variable {w0 w w1 w2 : World} {o c c' : Nat} {S : Nat → Prop} {bs cs os ps : List Nat} {a a' : Option Addr}
theorem PSt.kept (h : PSt w0 w o S bs a c os) (hb : Below w.heap.size w w1) : PSt w0 w1 o S bs a c os :=
  ⟨h.out.kept hb, fun j hj => by have := h.lt j hj; have := hb.size; omega, h.ge, h.own.kept hb, h.rge, h.apart, h.below.trans (hb.mono h.below.size)⟩
/-- The Out is put to. -/
theorem PSt.puts {e : Ending} (h : PSt w0 w o S bs a c os) (k : PutsO o S cs w e w1) : PSt w0 w1 o (Plus S w w1) cs a c os := by
  obtain ⟨_, k1, k2⟩ := k
  have hs := h.below.size
  refine ⟨k1.out, Plus.lt h.lt k2.out.size, fun j hj => ?_, h.own.chg k2.out h.apart, h.rge, fun j hj hp => ?_, h.below.trans (k2.out.below hs h.ge)⟩
  · rcases hj with hj | hj
    · exact h.ge j hj
    · omega
  · rcases hp with hp | hp
    · exact h.apart j hj hp
    · have := h.own.blt j hj; omega
/-- The row is put to. -/
theorem PSt.putsR {e : Ending} (h : PSt w0 w o S bs a c os) (k : PutsR a ps w e w1) : ∃ a' c', e = .returned (.slice a' ps.length c') ∧ PSt w0 w1 o S bs a' c' ps := by
  obtain ⟨a', c', e1, k1, k2, k3⟩ := k
  have hs := h.below.size
  refine ⟨a', c', e1, h.out.past fun j hj => k2.out.block j (h.lt j hj) fun e => h.apart j e.symm hj, fun j hj => by have := h.lt j hj; have := k2.out.size; omega, h.ge, k1.out, fun j hj => ?_, fun j hj hS => ?_, h.below.grown k2.out hs (fun j e => h.rge j e)⟩
  · rcases k3.out j hj with h1 | h1
    · exact h.rge j h1
    · omega
  · rcases k3.out j hj with h1 | h1
    · exact h.apart j h1 hS
    · have := h.lt j hS; omega
/-- What was there at the beginning is apart. -/
theorem PSt.limbsP (h : PSt w0 w o S bs a c os) {b : Option Addr} {cb : Nat} {xs : List Nat} (hh : Handed w0 b cb xs) (hl : xs.length ≤ 1000) : LimbsP w S b cb xs := by
  refine ⟨hh.reads.kept h.below, ?_, hh.lim, hh.le, hh.cap, hl⟩
  by_cases e : xs = []
  · exact .inl e
  · refine .inr fun g e' hS => ?_
    obtain ⟨g', off, rfl, hg, _⟩ := hh.reads.open' (by rw [List.length_map]; exact List.length_pos_iff.2 e)
    obtain rfl : g' = g := by simpa [blk] using e'
    have := h.ge _ hS
    omega
theorem PSt.limbsR (h : PSt w0 w o S bs a c os) {b : Option Addr} {cb : Nat} {xs : List Nat} (hh : Handed w0 b cb xs) (hl : xs.length ≤ 1000) : LimbsR w a b cb xs := by
  refine ⟨hh.reads.kept h.below, ?_, hh.lim, hh.le, hh.cap, hl⟩
  by_cases e : xs = []
  · exact .inl e
  · refine .inr fun g e' => ?_
    obtain ⟨g', off, rfl, hg, _⟩ := hh.reads.open' (by rw [List.length_map]; exact List.length_pos_iff.2 e)
    obtain rfl : g' = g := by simpa [blk] using e'
    have hs := h.below.size
    exact ⟨fun e2 => by have := h.rge _ e2; omega, by omega⟩
/-- Whatever was read at the beginning lies apart from both. -/
theorem PSt.far (h : PSt w0 w o S bs a c os) {b : Option Addr} {f : Nat → Value} {xs : List Nat} (hr : Reads w0 b (xs.map f)) : (xs = [] ∨ ∀ g, blk b = some g → ¬ S g) ∧ (xs = [] ∨ ∀ g, blk b = some g → blk a ≠ some g) := by
  by_cases e : xs = []
  · exact ⟨.inl e, .inl e⟩
  · obtain ⟨g', off, rfl, hg, _⟩ := hr.open' (by rw [List.length_map]; exact List.length_pos_iff.2 e)
    refine ⟨.inr fun g e' hS => ?_, .inr fun g e' e2 => ?_⟩
    · obtain rfl : g' = g := by simpa [blk] using e'
      have := h.ge _ hS; omega
    · obtain rfl : g' = g := by simpa [blk] using e'
      have := h.rge _ e2; omega
end
/-- The truth of a thing. -/
def flB (n : Int) : Bool := bits BinOp.and IntKind.i64 n 1 == 1
/-- A thing as bytes. -/
def encT (t : TD) : List Nat :=
  if t.kind = 0 then Pk.encI t.n else if t.kind = 1 then Pk.encF (flB t.n) else if t.kind = 2 then Pk.encB t.bs
  else if t.kind = 3 then Pk.encR t.x.s t.x.xs t.x.ds else if t.kind = 4 then Pk.encR t.x.s t.x.xs t.x.ds ++ Pk.encR t.x.t t.x.ys t.x.es
  else if t.kind = 5 then Pk.encI t.ls.length ++ t.ls.flatMap (Pk.be 8) else []
end Go.Proofs.YtodedlnpokagfaaDoor


/-
  law04.put: a thing is put, into both.
-/
set_option linter.unusedVariables false
set_option linter.unusedSimpArgs false
namespace Go.Proofs.YtodedlnpokagfaaDoor
open Go.RowKit Rep

/-- A call puts a thing, into both. -/
def PutT (w0 : World) (o : Nat) (bs os : List Nat) (e : Ending) (w' : World) : Prop := ∃ S a' c', e = .returned (.slice a' os.length c') ∧ Hid (PSt w0 w' o S bs a' c' os)
/-- The thing's box stays. -/
theorem box_out {W0 W : World} {S : Nat → Prop} {r : Nat} {cs : Array Value} {T : TypeId} (h : W0.heap[r]? = some (.cells cs T (0, 0))) (hc : Chg S W0 W) (hn : ¬ S r) : W.heap[r]? = some (.cells cs T (0, 0)) := (hc.block _ (Array.getElem?_eq_some_iff.1 h).1 hn).trans h

end Go.Proofs.YtodedlnpokagfaaDoor


/-
  law04.put: lists, and no kind; any thing.
-/
set_option linter.unusedVariables false
set_option linter.unusedSimpArgs false
namespace Go.Proofs.YtodedlnpokagfaaDoor
open Go.RowKit Rep

end Go.Proofs.YtodedlnpokagfaaDoor


/-
  Layer 4, plainly: what is taken of what was put, and of a beginning of it.
-/
set_option linter.unusedVariables false
set_option linter.unusedSimpArgs false
namespace Go.Proofs.YtodedlnpokagfaaDoor
namespace Pk

/-- f takes the bytes e off, and nothing of a beginning of them. -/
structure Enc (f : St → St) (e : List Nat) : Prop where
  all : ∀ r, f (some (e ++ r)) = some r
  short : ∀ p q, q ≠ [] → e = p ++ q → f (some p) = none
  none : f none = none
theorem Enc.comp {f g : St → St} {e e' : List Nat} (h : Enc f e) (h' : Enc g e') : Enc (fun s => g (f s)) (e ++ e') := by
  refine ⟨fun r => by rw [List.append_assoc]; show g (f (some (e ++ (e' ++ r)))) = _; rw [h.all, h'.all], fun p q hq hpq => ?_, by show g (f Option.none) = _; rw [h.none, h'.none]⟩
  show g (f (some p)) = _
  by_cases hl : p.length < e.length
  · have hp : p = e.take p.length := by
      have := congrArg (List.take p.length) hpq
      rw [List.take_append_of_le_length (by omega), List.take_append_of_le_length (Nat.le_refl _), List.take_length] at this
      exact this.symm
    rw [h.short p (e.drop p.length) (by intro hd; rw [List.drop_eq_nil_iff] at hd; omega) (by rw [hp, List.length_take, Nat.min_eq_left (by omega), List.take_append_drop]), h'.none]
  · have hp : p = e ++ p.drop e.length := by
      have := congrArg (List.take e.length) hpq
      rw [List.take_append_of_le_length (Nat.le_refl _), List.take_length, List.take_append_of_le_length (by omega)] at this
      have e1 : p = p.take e.length ++ p.drop e.length := (List.take_append_drop _ _).symm
      rw [← this] at e1
      exact e1
    have he : e' = p.drop e.length ++ q := by
      rw [hp, List.append_assoc] at hpq
      exact List.append_cancel_left hpq
    rw [hp, h.all]
    exact h'.short _ q hq he
theorem enc_id : Enc (fun s => s) [] := ⟨fun r => rfl, fun p q hq h => by
  have := congrArg List.length h
  simp at this
  exact absurd (List.length_eq_zero_iff.1 (by omega)) hq, rfl⟩
theorem enc_cut {e : List Nat} {k : Nat} (he : e.length = k) : Enc (cutN k) e := by
  subst he
  refine ⟨fun r => by simp [cutN], fun p q hq h => ?_, rfl⟩
  have hl := congrArg List.length h
  have hq' : 0 < q.length := List.length_pos_iff.2 hq
  rw [List.length_append] at hl
  unfold cutN
  dsimp only
  rw [if_neg (by omega)]
theorem cutV_app {e r : List Nat} {k : Nat} (he : e.length = k) : cutV k (some (e ++ r)) = e := by
  subst he
  simp [cutV]
theorem iN_enc {n : Int} (h1 : -9223372036854775808 ≤ n) (h2 : n ≤ 9223372036854775807) : iN (val (encI n)) = n := by
  unfold encI
  rw [val_be, Nat.mod_eq_of_lt (uN_lt n), iN_uN h1 h2]
theorem intV_enc {n : Int} (h1 : -9223372036854775808 ≤ n) (h2 : n ≤ 9223372036854775807) (r : List Nat) : intV (some (encI n ++ r)) = n := by
  unfold intV
  rw [cutV_app (encI_length n), iN_enc h1 h2]
theorem enc_int (n : Int) : Enc intN (encI n) := enc_cut (encI_length n)
theorem enc_flag (b : Bool) : Enc flagN (encF b) := by
  refine ⟨fun r => ?_, fun p q hq h => ?_, by simp [flagN, cutV, cutN, val]⟩
  · cases b <;> simp [flagN, encF, cutV, cutN, val]
  · have hl := congrArg List.length h
    have hq' : 0 < q.length := List.length_pos_iff.2 hq
    simp [encF] at hl
    obtain rfl : p = [] := List.length_eq_zero_iff.1 (by omega)
    simp [flagN, cutV, cutN, val]
theorem flagV_enc (b : Bool) (r : List Nat) : flagV (some (encF b ++ r)) = b := by cases b <;> simp [flagV, encF, cutV, val]
/-! ### Counts -/
theorem count_all {len : Nat} {k : Nat} {r : List Nat} (hk : 0 < k) (hl : len * k ≤ r.length) (hm : len ≤ 9223372036854775807) : countV (k : Int) (some (encI (len : Int) ++ r)) = len ∧ countN (k : Int) (some (encI (len : Int) ++ r)) = some r := by
  have hi := intV_enc (n := (len : Int)) (by omega) (by omega) r
  have hn : intN (some (encI (len : Int) ++ r)) = some r := (enc_int _).all r
  have hmax : (max (k : Int) 1).toNat = k := by omega
  have hdiv : len ≤ r.length / k := (Nat.le_div_iff_mul_le hk).2 hl
  have hok : countOK (k : Int) (some (encI (len : Int) ++ r)) = true := by
    unfold countOK
    rw [hi, hn, hmax]
    exact decide_eq_true ⟨by omega, by show (len : Int) ≤ ((r.length / k : Nat) : Int); exact_mod_cast hdiv⟩
  unfold countV countN
  rw [hok, if_pos rfl, if_pos rfl, hi, hn]
  exact ⟨by omega, rfl⟩
theorem count_few {len : Nat} {k : Nat} {r : List Nat} (hk : 0 < k) (hl : r.length < len * k) (hm : len ≤ 9223372036854775807) : countN (k : Int) (some (encI (len : Int) ++ r)) = none := by
  have hi := intV_enc (n := (len : Int)) (by omega) (by omega) r
  have hn : intN (some (encI (len : Int) ++ r)) = some r := (enc_int _).all r
  have hmax : (max (k : Int) 1).toNat = k := by omega
  have hdiv : r.length / k < len := (Nat.div_lt_iff_lt_mul hk).2 hl
  have hok : countOK (k : Int) (some (encI (len : Int) ++ r)) = false := by
    unfold countOK
    rw [hi, hn, hmax]
    refine decide_eq_false ?_
    rintro ⟨_, h⟩
    have h' : (len : Int) ≤ ((r.length / k : Nat) : Int) := h
    exact absurd (show len ≤ r.length / k by exact_mod_cast h') (Nat.not_le.2 hdiv)
  unfold countN
  rw [hok]
  rfl
theorem count_short {p : List Nat} (k : Int) (h : p.length < 8) : countN k (some p) = none := by
  unfold countN
  have : intN (some p) = none := by unfold intN cutN; dsimp only; rw [if_neg (by omega)]
  rw [this]
  split <;> rfl
theorem repN_none (k n : Nat) : repN k n none = none := by
  induction n with
  | zero => rfl
  | succ n ih => exact ih
theorem countN_none (k : Int) : countN k none = none := by
  unfold countN intN cutN
  split <;> rfl
/-- A count, and so many bytes. -/
theorem enc_counted {f : Nat → St → St} {len k : Nat} {body : List Nat} (hk : 0 < k) (hb : body.length = len * k) (hm : len ≤ 9223372036854775807) (hf : Enc (f len) body) (hn : ∀ n, f n none = none) :
    Enc (fun s => f (countV (k : Int) s) (countN (k : Int) s)) (encI (len : Int) ++ body) := by
  refine ⟨fun r => ?_, fun p q hq h => ?_, ?_⟩
  · show f (countV (k : Int) (some (encI (len : Int) ++ body ++ r))) (countN (k : Int) (some (encI (len : Int) ++ body ++ r))) = _
    rw [List.append_assoc]
    obtain ⟨h1, h2⟩ := count_all (len := len) (k := k) (r := body ++ r) hk (by rw [List.length_append]; omega) hm
    rw [h1, h2, hf.all]
  · show f (countV (k : Int) (some p)) (countN (k : Int) (some p)) = _
    have hl := congrArg List.length h
    have hq' : 0 < q.length := List.length_pos_iff.2 hq
    rw [List.length_append, List.length_append, encI_length, hb] at hl
    by_cases h8 : p.length < 8
    · rw [count_short _ h8, hn]
    · have hp : p = encI (len : Int) ++ p.drop 8 := by
        have := congrArg (List.take 8) h
        rw [List.take_append_of_le_length (by rw [encI_length]; omega), List.take_append_of_le_length (by omega), List.take_of_length_le (by rw [encI_length]; omega)] at this
        rw [this, List.take_append_drop]
      rw [hp, count_few hk (by rw [List.length_drop]; omega) hm, hn]
  · show f (countV (k : Int) none) (countN (k : Int) none) = _
    rw [countN_none, hn]
theorem enc_rep (k : Nat) : ∀ ms : List Nat, Enc (repN k ms.length) (ms.flatMap (be k))
  | [] => enc_id
  | m :: ms => by
    have := (enc_cut (e := be k m) (k := k) (be_length k m)).comp (enc_rep k ms)
    exact this
theorem rep_enc {k : Nat} : ∀ {ms : List Nat} (r : List Nat), (∀ m ∈ ms, m < 256 ^ k) → rep k ms.length (some (ms.flatMap (be k) ++ r)) = ms
  | [], r, _ => rfl
  | m :: ms, r, h => by
    have ih := rep_enc (k := k) (ms := ms) r (fun x hx => h x (by simp [hx]))
    simp only [List.flatMap_cons, List.length_cons, rep]
    rw [List.append_assoc, cutV_app (be_length k m), (enc_cut (e := be k m) (k := k) (be_length k m)).all, ih, val_be, Nat.mod_eq_of_lt (h m (by simp))]
theorem flat_length (k : Nat) (ms : List Nat) : (ms.flatMap (be k)).length = ms.length * k := by
  induction ms with
  | nil => simp
  | cons m ms ih => simp only [List.flatMap_cons, List.length_append, be_length, ih, List.length_cons, Nat.succ_mul]; omega
theorem enc_list {k : Nat} {ms : List Nat} (hk : 0 < k) (hm : ms.length ≤ 9223372036854775807) : Enc (listN k) (encI (ms.length : Int) ++ ms.flatMap (be k)) :=
  enc_counted (f := repN k) hk (flat_length k ms) hm (enc_rep k ms) (repN_none k)
theorem listV_enc {k : Nat} {ms : List Nat} (hk : 0 < k) (hm : ms.length ≤ 9223372036854775807) (hv : ∀ m ∈ ms, m < 256 ^ k) (r : List Nat) : listV k (some (encI (ms.length : Int) ++ ms.flatMap (be k) ++ r)) = ms := by
  unfold listV
  rw [List.append_assoc]
  obtain ⟨h1, h2⟩ := count_all (len := ms.length) (k := k) (r := ms.flatMap (be k) ++ r) hk (by rw [List.length_append, flat_length]; omega) hm
  rw [h1, h2, rep_enc r hv]
theorem enc_bytes {l : List Nat} (hm : l.length ≤ 9223372036854775807) : Enc bytesN (encB l) :=
  enc_counted (f := cutN) (k := 1) (by omega) (by omega) hm (enc_cut rfl) (fun _ => rfl)
theorem cutN_none (k : Nat) : cutN k none = none := rfl
/-! ### Ratios -/
section
variable {s t : Bool} {xs ds ys es : List Nat}
theorem enc_limbs (h : xs.length ≤ 9223372036854775807) : Enc (listN 4) (encL xs) := enc_list (by omega) h
theorem enc_rat3 (hx : xs.length ≤ 9223372036854775807) (hd : ds.length ≤ 9223372036854775807) : Enc (fun u => listN 4 (listN 4 (flagN u))) (encR s xs ds) := by
  unfold encR
  exact ((enc_flag s).comp (enc_limbs hx)).comp (enc_limbs hd)
theorem ratOK_enc (hx : xs.length ≤ 9223372036854775807) (hd : ds.length ≤ 9223372036854775807) (lx : ∀ m ∈ xs, m < 4294967296) (ld : ∀ m ∈ ds, m < 4294967296) (r : List Nat) :
    listV 4 (flagN (some (encR s xs ds ++ r))) = xs ∧ listV 4 (listN 4 (flagN (some (encR s xs ds ++ r)))) = ds ∧ ratOK (some (encR s xs ds ++ r)) = rightB s xs ds := by
  have e1 : flagN (some (encR s xs ds ++ r)) = some (encL xs ++ (encL ds ++ r)) := by
    unfold encR
    rw [List.append_assoc, List.append_assoc, (enc_flag s).all]
  have e2 : flagV (some (encR s xs ds ++ r)) = s := by
    unfold encR
    rw [List.append_assoc, List.append_assoc, flagV_enc]
  have e3 : listV 4 (some (encL xs ++ (encL ds ++ r))) = xs := listV_enc (k := 4) (by omega) hx lx (encL ds ++ r)
  have e4 : listN 4 (some (encL xs ++ (encL ds ++ r))) = some (encL ds ++ r) := (enc_limbs hx).all _
  have e5 : listV 4 (some (encL ds ++ r)) = ds := listV_enc (k := 4) (by omega) hd ld r
  have e6 : listN 4 (some (encL ds ++ r)) = some r := (enc_limbs hd).all _
  refine ⟨by rw [e1, e3], by rw [e1, e4, e5], ?_⟩
  unfold ratOK
  rw [e1, e2, e3, e4, e5, e6]
  rfl
theorem enc_rat (hx : xs.length ≤ 9223372036854775807) (hd : ds.length ≤ 9223372036854775807) (lx : ∀ m ∈ xs, m < 4294967296) (ld : ∀ m ∈ ds, m < 4294967296) (hr : rightB s xs ds = true) : Enc ratN (encR s xs ds) := by
  have h3 := enc_rat3 (s := s) hx hd
  refine ⟨fun r => ?_, fun p q hq h => ?_, ?_⟩
  · unfold ratN
    rw [(ratOK_enc hx hd lx ld r).2.2, hr, if_pos rfl]
    exact h3.all r
  · have := h3.short p q hq h
    unfold ratN ratOK
    rw [this]
    rfl
  · have := h3.none
    unfold ratN ratOK
    rw [this]
    rfl
end
/-! ### Things -/
def thN (kd n : Int) (s : St) : St :=
  if kd = 0 then intN s else if kd = 1 then flagN s else if kd = 2 then bytesN s else if kd = 3 then ratN s else if kd = 4 then ratN (ratN s) else if kd = 5 then listN 8 s else countN n s
theorem thN_none (kd n : Int) : thN kd n none = none := by
  have hl : ∀ k, listN k none = none := fun k => by unfold listN; rw [countN_none, repN_none]
  have hr : ratN none = none := by
    have h3 := (enc_rat3 (s := false) (xs := []) (ds := []) (by simp) (by simp)).none
    unfold ratN ratOK
    rw [h3]
    rfl
  unfold thN
  repeat' split
  · rfl
  · simp [flagN, cutV, cutN, val]
  · unfold bytesN; rw [countN_none]; rfl
  · exact hr
  · rw [hr, hr]
  · exact hl 8
  · exact countN_none n
end Pk
end Go.Proofs.YtodedlnpokagfaaDoor


/-
  Layer 4: the document's In: limbs.
-/
set_option linter.unusedVariables false
set_option linter.unusedSimpArgs false
namespace Go.Proofs.YtodedlnpokagfaaDoor
open Go.RowKit Rep

theorem xcountN_byt {m : Int} {s : Pk.St} (h : ∀ r, s = some r → Pk.Byt r) : ∀ r, Pk.countN m s = some r → Pk.Byt r := countN_byt h
theorem cut_four {s : Pk.St} (h : 4 ≤ Pk.left s) (hb : ∀ r, s = some r → Pk.Byt r) : ∃ b0 b1 b2 b3 : Nat, Pk.cutV 4 s = [b0, b1, b2, b3] ∧ b0 < 256 ∧ b1 < 256 ∧ b2 < 256 ∧ b3 < 256 := by
  rcases s with _ | r
  · simp [Pk.left] at h
  · have h' : 4 ≤ r.length := h
    have hr := hb r rfl
    rcases r with _ | ⟨b0, _ | ⟨b1, _ | ⟨b2, _ | ⟨b3, r⟩⟩⟩⟩ <;> simp at h'
    refine ⟨b0, b1, b2, b3, by simp [Pk.cutV], hr _ (by simp), hr _ (by simp), hr _ (by simp), hr _ (by simp)⟩
theorem val_four (b0 b1 b2 b3 : Nat) : Pk.val [b0, b1, b2, b3] = b0 * 16777216 + b1 * 65536 + b2 * 256 + b3 := by
  simp [Pk.val]; omega

/-- Behind j rounds, the document's. -/
structure XkAt (w : World) (x : Nat) (s : Pk.St) (j : Nat) (a : Option Addr) (c : Nat) (wr : World) : Prop where
  own : OwnR 71 u32v w.heap.size wr a c (Pk.rep 4 j s)
  inn : XSt wr x (Pk.repN 4 j s)
  grown : w.grownBy wr (some x)
  lt : x < w.heap.size
theorem XkAt.start {w : World} {x : Nat} {s : Pk.St} (h : XSt w x s) : XkAt w x s 0 (some ⟨w.heap.size, 0, none⟩) 0 (w.alloc (.cells #[] 71)) :=
  ⟨OwnR.start _ _ _, h.kept ((Below.refl _ _).alloc (Nat.le_refl _) _), grown_of_below ((Below.refl _ _).alloc (Nat.le_refl _) _) _, h.lt⟩
theorem XkAt.own1 {w : World} {x : Nat} {s : Pk.St} {j : Nat} {a : Option Addr} {c : Nat} {wr w2 : World} (h : XkAt w x s j a c wr) (G2 : wr.grownBy w2 (some x)) (d : Nat) :
    OwnR 71 u32v w.heap.size (w2.drew.alloc (.cells #[.int .u32 (d : Int)] 71)) a c (Pk.rep 4 j s) ∧ w.heap.size ≤ (w2.drew.alloc (.cells #[.int .u32 (d : Int)] 71)).heap.size ∧ Reads (w2.drew.alloc (.cells #[.int .u32 (d : Int)] 71)) (some ⟨w2.drew.heap.size, 0, none⟩) ([d].map u32v) :=
  ⟨((h.own.past h.lt G2).kept (below_drew w2)).kept ((Below.refl _ _).alloc (Nat.le_refl _) _), by have := h.grown.size; have := G2.size; have e : w2.drew.heap.size = w2.heap.size := rfl; simp; omega, (Row.new (E := 71) w2.drew #[.int .u32 (d : Int)]).reads0⟩
theorem XkAt.next {w : World} {x : Nat} {s : Pk.St} {j : Nat} {a : Option Addr} {c : Nat} {wr w2 w' : World} {a' : Option Addr} {c' d : Nat} (h : XkAt w x s j a c wr) (G1 : XSt w2 x (Pk.cutN 4 (Pk.repN 4 j s))) (G2 : wr.grownBy w2 (some x))
    {o : Obj} (hd : d = Pk.val (Pk.cutV 4 (Pk.repN 4 j s))) (hown : OwnR 71 u32v w.heap.size w' a' c' (Pk.rep 4 j s ++ [d])) (hgrow : (w2.drew.alloc o).grownBy w' (blk a)) : XkAt w x s (j + 1) a' c' w' := by
  have hb := h.own.blkB
  have hl := h.lt
  have hb2 : Below w2.heap.size w2 (w2.drew.alloc o) := (below_drew w2).trans ((Below.refl w2.drew.heap.size w2.drew).alloc (Nat.le_refl _) o)
  refine ⟨?_, ?_, ?_, hl⟩
  · rw [Pk.rep_snoc, ← hd]; exact hown
  · rw [Pk.repN_snoc]
    exact (G1.kept hb2).other hgrow (fun q e => by have := hb q e; omega)
  · exact grown_new (grownBy_trans_new (grownBy_trans_new h.grown G2) (grown_of_below hb2 _)) hgrow hb
theorem XkAt.done {w w0 : World} {x : Nat} {s : Pk.St} {n : Nat} {a : Option Addr} {c : Nat} {wr : World} (h : XkAt w x s n a c wr) (hg : w0.grownBy w (some x)) :
    XTakesL u32v x (Pk.rep 4 n s) (Pk.repN 4 n s) w0 (.returned (.slice a n c)) wr :=
  ⟨a, c, by rw [Pk.rep_length], Lib.hid h.own.reads, Lib.hid ⟨h.own.le, h.own.1⟩, Lib.hid (fun j e => by have := h.own.blkB j e; have := hg.size; omega), Lib.hid h.inn, Lib.hid (grownBy_trans_new hg h.grown)⟩
/-- What the limb is reckoned of, each number with a letter. -/
theorem four_steps {b0 b1 b2 b3 : Nat} (h0 : b0 < 256) (h1 : b1 < 256) (h2 : b2 < 256) (h3 : b3 < 256) : ∃ x0 x1 y1 x2 y2 y3 : Nat,
    (IntKind.u32.wrap (b0 : Int) = (b0 : Int) ∧ IntKind.u32.wrap (b1 : Int) = (b1 : Int) ∧ IntKind.u32.wrap (b2 : Int) = (b2 : Int) ∧ IntKind.u32.wrap (b3 : Int) = (b3 : Int)) ∧
    IntKind.u32.wrap ((b0 : Int) * 16777216) = (x0 : Int) ∧ IntKind.u32.wrap ((b1 : Int) * 65536) = (x1 : Int) ∧ IntKind.u32.wrap ((x0 : Int) + (x1 : Int)) = (y1 : Int) ∧ IntKind.u32.wrap ((b2 : Int) * 256) = (x2 : Int) ∧
    IntKind.u32.wrap ((y1 : Int) + (x2 : Int)) = (y2 : Int) ∧ IntKind.u32.wrap ((y2 : Int) + (b3 : Int)) = (y3 : Int) ∧ y3 = Pk.val [b0, b1, b2, b3] := by
  refine ⟨b0 * 16777216, b1 * 65536, b0 * 16777216 + b1 * 65536, b2 * 256, b0 * 16777216 + b1 * 65536 + b2 * 256, b0 * 16777216 + b1 * 65536 + b2 * 256 + b3, ⟨?_, ?_, ?_, ?_⟩, ?_, ?_, ?_, ?_, ?_, ?_, (val_four _ _ _ _).symm⟩
  all_goals
    rw [IntWalk.u32_in _ (by omega)]
    try omega

set_option maxRecDepth 100000 in
set_option maxHeartbeats 8000000 in
theorem Xlimbs_any {w : World} {x : Nat} {s : Pk.St} (h : XSt w x s) : Calls Tryd.prog 40 #[.pointer (some ⟨x, 0, none⟩)] w (XTakesL u32v x (Pk.listV 4 s) (Pk.listN 4 s) w) := by
  have HC := Lib.hid (XCount_any h (m := ((4 : Nat) : Int)) ⟨by omega, by omega⟩)
  have HR := Lib.hid (count_room (k := 4) (s := s) (by omega))
  have HBY := Lib.hid (xcountN_byt (m := ((4 : Nat) : Int)) (xst_byt h))
  unfold Pk.listV Pk.listN
  clear h
  generalize Pk.countV ((4 : Nat) : Int) s = n at *
  generalize Pk.countN ((4 : Nat) : Int) s = s1 at *
  go_enter Tryd.func40, Tryd.ntmps40
  go_wp2_with fail
  refine HC.out.mono ?_
  rintro e w1 ⟨rfl, G1, G2⟩
  clear HC
  have hn : n * 4 ≤ 140737488355328 := by have := xleft_le G1.out; have := HR.out.1; omega
  have HS := Lib.hid (XkAt.start G1.out)
  clear G1
  go_wp2_with fail
  go_loopw [4, 5] (fun lv iv wr => ∃ (j : Nat) (a : Option Addr) (c : Nat), j ≤ n ∧ lv = .slice a j c ∧ iv = .int .i64 j ∧ Hid (XkAt w1 x s1 j a c wr)) (fun _ iv _ => n - (intOf iv).toNat)
  case atStart => exact ⟨0, _, 0, Nat.zero_le _, rfl, rfl, HS⟩
  case round =>
    obtain ⟨j, a, c, hj, rfl, rfl, HJ⟩ := hrel
    clear HS
    by_cases hlt : j < n
    · have HM := Lib.hid (xtake_any HJ.out.inn (n := 4) (by omega))
      have HLEN : Hid ((Pk.rep 4 j s1).length = j) := Lib.hid (Pk.rep_length _ _ _)
      obtain ⟨b0, b1, b2, b3, hcut, l0, l1, l2, l3⟩ : ∃ b0 b1 b2 b3 : Nat, Pk.cutV 4 (Pk.repN 4 j s1) = [b0, b1, b2, b3] ∧ b0 < 256 ∧ b1 < 256 ∧ b2 < 256 ∧ b3 < 256 := by
        obtain ⟨r1, r2⟩ := HR.out
        have hm : (j + 1) * 4 ≤ n * 4 := Nat.mul_le_mul_right _ hlt
        have := (Pk.repN_some (k := 4) (n := j) (s := s1) (by omega) (r2 (by omega)))
        refine cut_four (by rw [this.2]; omega) (fun r e => ?_)
        exact xst_byt HJ.out.inn r e
      obtain ⟨x0, x1, y1, x2, y2, y3, ⟨v0, v1, v2, v3⟩, e0, e1, e2, e3, e4, e5, e6⟩ := four_steps l0 l1 l2 l3
      have HY : Hid (y3 = Pk.val (Pk.cutV 4 (Pk.repN 4 j s1))) := Lib.hid (by rw [hcut]; exact e6)
      rw [hcut] at HM
      clear hcut e6
      go_wp2_with fail
      refine HM.out.mono ?_
      rintro e w2 ⟨ab, cb, rfl, M0, M1, M2, G3, G4⟩
      clear HM
      obtain ⟨g, off, rfl, hg, hcell⟩ := M0.out.open' (by simp)
      have k0 := hcell 0 _ rfl
      have k1 := hcell 1 _ rfl
      have k2 := hcell 2 _ rfl
      have k3 := hcell 3 _ rfl
      unfold u8v at k0 k1 k2 k3
      rw [Nat.add_zero] at k0
      have hcb := M1.out.1
      simp only [List.length_cons, List.length_nil, Nat.zero_add, Nat.reduceAdd] at hcb
      have HNX : Hid (∀ (w' : World) (a' : Option Addr) (c' : Nat) (o : Obj), OwnR 71 u32v w1.heap.size w' a' c' (Pk.rep 4 j s1 ++ [y3]) → (w2.drew.alloc o).grownBy w' (blk a) → XkAt w1 x s1 (j + 1) a' c' w') := Lib.hid fun w' a' c' o h1 h2 => HJ.out.next G3.out G4.out HY.out h1 h2
      obtain ⟨ho1, hsz, hrd⟩ := HJ.out.own1 G4.out y3
      have HO1 := Lib.hid ho1
      have HSZ := Lib.hid hsz
      have HRD := Lib.hid hrd
      have HKP : Hid (∀ w', Below w2.drew.heap.size w2.drew w' → w'.cell? ⟨g, off, none⟩ = some (.int .u8 (b0 : Int)) ∧ w'.cell? ⟨g, off + 1, none⟩ = some (.int .u8 (b1 : Int)) ∧ w'.cell? ⟨g, off + 2, none⟩ = some (.int .u8 (b2 : Int)) ∧ w'.cell? ⟨g, off + 3, none⟩ = some (.int .u8 (b3 : Int))) := Lib.hid fun w' hb => by
        have hbb : Below w2.heap.size w2 w' := (below_drew w2).trans hb
        exact ⟨(hbb.cell hg).trans k0, (hbb.cell hg).trans k1, (hbb.cell hg).trans k2, (hbb.cell hg).trans k3⟩
      have HGB : Hid (∀ w', (w2.drew.alloc (.cells #[.int .u32 (y3 : Int)] 71)).grownBy w' (blk a) → w'.cell? ⟨g, off, none⟩ = some (.int .u8 (b0 : Int)) ∧ w'.cell? ⟨g, off + 1, none⟩ = some (.int .u8 (b1 : Int)) ∧ w'.cell? ⟨g, off + 2, none⟩ = some (.int .u8 (b2 : Int)) ∧ w'.cell? ⟨g, off + 3, none⟩ = some (.int .u8 (b3 : Int))) := Lib.hid fun w' hg' => by
        obtain ⟨t0, t1, t2, t3⟩ := HKP.out _ ((Below.refl w2.drew.heap.size w2.drew).alloc (Nat.le_refl _) (.cells #[.int .u32 (y3 : Int)] 71))
        have hgr : some g ≠ blk a := fun e => by
          have hx := M2.out g rfl
          have hy := HJ.out.own
          obtain ⟨_, ⟨rfl, _⟩ | ⟨g', rfl, _, hr⟩⟩ := hy
          · cases e
          · cases e
            have h2 := hr.lt
            have h3 : wr.heap.size ≤ g' := hx
            omega
        exact ⟨hg'.cell t0 hgr, hg'.cell t1 hgr, hg'.cell t2 hgr, hg'.cell t3 hgr⟩
      clear G3 G4 HJ ho1 hsz hrd hcell M0 M1 M2 HY
      go_wp2_with fail
      refine wp_region_held_drew (S := (fun w' => w'.cell? ⟨g, off, none⟩ = some (.int .u8 (b0 : Int)) ∧ w'.cell? ⟨g, off + 1, none⟩ = some (.int .u8 (b1 : Int)) ∧ w'.cell? ⟨g, off + 2, none⟩ = some (.int .u8 (b2 : Int)) ∧ w'.cell? ⟨g, off + 3, none⟩ = some (.int .u8 (b3 : Int)))) (by kernel_rfl) ?_ (fun hHeld => ?_)
      · exact HKP.out _ (Below.refl _ _)
      refine wpAnyH_take (i := 0) (v := ?_) (by rfl) (by kernel_rfl) (by kernel_rfl) (by kernel_rfl) (by exact fun _ _ _ h => h) (Or.inl ⟨by rfl, ?_⟩) hHeld ?_
      rotate_left 1
      · intro w' hSw
        go_simp
        try with_reducible rfl
      try simp only [Act.put, List.setIfInBounds_toArray, List.set_cons_zero, List.set_cons_succ, List.getElem_toArray, List.getElem_cons_zero, List.getElem_cons_succ]
      refine wpAnyH_take (i := 1) (v := ?_) (by rfl) (by kernel_rfl) (by kernel_rfl) (by kernel_rfl) (by exact fun _ _ _ h => h) (Or.inl ⟨by rfl, ?_⟩) hHeld ?_
      rotate_left 1
      · intro w' hSw
        go_simp
        try with_reducible rfl
      try simp only [Act.put, List.setIfInBounds_toArray, List.set_cons_zero, List.set_cons_succ, List.getElem_toArray, List.getElem_cons_zero, List.getElem_cons_succ]
      refine wpAnyH_take (i := 2) (v := ?_) (by rfl) (by kernel_rfl) (by kernel_rfl) (by kernel_rfl) (by exact fun _ _ _ h => h) (Or.inl ⟨by rfl, ?_⟩) hHeld ?_
      rotate_left 1
      · intro w' hSw
        go_simp
        try with_reducible rfl
      try simp only [Act.put, List.setIfInBounds_toArray, List.set_cons_zero, List.set_cons_succ, List.getElem_toArray, List.getElem_cons_zero, List.getElem_cons_succ]
      refine wpAnyH_take (i := 3) (v := ?_) (by rfl) (by kernel_rfl) (by kernel_rfl) (by kernel_rfl) (by exact fun _ _ _ h => h) (Or.inl ⟨by rfl, ?_⟩) hHeld ?_
      rotate_left 1
      · intro w' hSw
        go_simp
        try with_reducible rfl
      try simp only [Act.put, List.setIfInBounds_toArray, List.set_cons_zero, List.set_cons_succ, List.getElem_toArray, List.getElem_cons_zero, List.getElem_cons_succ]
      refine wpAnyH_take (i := 4) (v := ?_) (by rfl) (by kernel_rfl) (by kernel_rfl) (by kernel_rfl) (by exact fun _ _ _ h => h) (Or.inl ⟨by rfl, ?_⟩) hHeld ?_
      rotate_left 1
      · intro w' hSw
        go_simp
        try with_reducible rfl
      try simp only [Act.put, List.setIfInBounds_toArray, List.set_cons_zero, List.set_cons_succ, List.getElem_toArray, List.getElem_cons_zero, List.getElem_cons_succ]
      refine wpAnyH_take (i := 5) (v := ?_) (by rfl) (by kernel_rfl) (by kernel_rfl) (by kernel_rfl) (by exact fun _ _ _ h => h) (Or.inl ⟨by rfl, ?_⟩) hHeld ?_
      rotate_left 1
      · intro w' hSw
        go_simp
        try with_reducible rfl
      try simp only [Act.put, List.setIfInBounds_toArray, List.set_cons_zero, List.set_cons_succ, List.getElem_toArray, List.getElem_cons_zero, List.getElem_cons_succ]
      refine wpAnyH_take (i := 6) (v := ?_) (by rfl) (by kernel_rfl) (by kernel_rfl) (by kernel_rfl) (by exact fun _ _ _ h => h) (Or.inl ⟨by rfl, ?_⟩) hHeld ?_
      rotate_left 1
      · intro w' hSw
        go_simp
        try with_reducible rfl
      try simp only [Act.put, List.setIfInBounds_toArray, List.set_cons_zero, List.set_cons_succ, List.getElem_toArray, List.getElem_cons_zero, List.getElem_cons_succ]
      refine wpAnyH_take (i := 7) (v := ?_) (by rfl) (by kernel_rfl) (by kernel_rfl) (by kernel_rfl) (by exact fun _ _ _ h => h) (Or.inl ⟨by rfl, ?_⟩) hHeld ?_
      rotate_left 1
      · intro w' hSw
        go_simp
        try with_reducible rfl
      try simp only [Act.put, List.setIfInBounds_toArray, List.set_cons_zero, List.set_cons_succ, List.getElem_toArray, List.getElem_cons_zero, List.getElem_cons_succ]
      refine wpAnyH_take (i := 8) (v := ?_) (by rfl) (by kernel_rfl) (by kernel_rfl) (by kernel_rfl) (by exact fun _ _ _ h => h) (Or.inl ⟨by rfl, ?_⟩) hHeld ?_
      rotate_left 1
      · intro w' hSw
        go_simp
        try with_reducible rfl
      try simp only [Act.put, List.setIfInBounds_toArray, List.set_cons_zero, List.set_cons_succ, List.getElem_toArray, List.getElem_cons_zero, List.getElem_cons_succ]
      refine wpAnyH_take (i := 9) (v := ?_) (by rfl) (by kernel_rfl) (by kernel_rfl) (by kernel_rfl) (by exact fun _ _ _ h => h) (Or.inl ⟨by rfl, ?_⟩) hHeld ?_
      rotate_left 1
      · intro w' hSw
        go_simp
        try with_reducible rfl
      try simp only [Act.put, List.setIfInBounds_toArray, List.set_cons_zero, List.set_cons_succ, List.getElem_toArray, List.getElem_cons_zero, List.getElem_cons_succ]
      refine wpAnyH_take (i := 10) (v := ?_) (by rfl) (by kernel_rfl) (by kernel_rfl) (by kernel_rfl) (by exact fun _ _ _ h => h) (Or.inl ⟨by rfl, ?_⟩) hHeld ?_
      rotate_left 1
      · intro w' hSw
        go_simp
        try with_reducible rfl
      try simp only [Act.put, List.setIfInBounds_toArray, List.set_cons_zero, List.set_cons_succ, List.getElem_toArray, List.getElem_cons_zero, List.getElem_cons_succ]
      refine wpAnyH_take (i := 11) (v := ?_) (by rfl) (by kernel_rfl) (by kernel_rfl) (by kernel_rfl) (by exact fun _ _ _ h => h) (Or.inl ⟨by rfl, ?_⟩) hHeld ?_
      rotate_left 1
      · intro w' hSw
        go_simp
        try with_reducible rfl
      try simp only [Act.put, List.setIfInBounds_toArray, List.set_cons_zero, List.set_cons_succ, List.getElem_toArray, List.getElem_cons_zero, List.getElem_cons_succ]
      refine wpAnyH_take (i := 12) (v := ?_) (by rfl) (by kernel_rfl) (by kernel_rfl) (by kernel_rfl) (by exact fun _ _ _ h => h) (Or.inl ⟨by rfl, ?_⟩) hHeld ?_
      rotate_left 1
      · intro w' hSw
        go_simp
        try with_reducible rfl
      try simp only [Act.put, List.setIfInBounds_toArray, List.set_cons_zero, List.set_cons_succ, List.getElem_toArray, List.getElem_cons_zero, List.getElem_cons_succ]
      refine wpAnyH_take (i := 13) (v := ?_) (by rfl) (by kernel_rfl) (by kernel_rfl) (by kernel_rfl) (by exact fun _ _ _ h => h) (Or.inl ⟨by rfl, ?_⟩) hHeld ?_
      rotate_left 1
      · intro w' hSw
        go_simp
        try with_reducible rfl
      try simp only [Act.put, List.setIfInBounds_toArray, List.set_cons_zero, List.set_cons_succ, List.getElem_toArray, List.getElem_cons_zero, List.getElem_cons_succ]
      refine wpAnyH_take (i := 14) (v := ?_) (by rfl) (by kernel_rfl) (by kernel_rfl) (by kernel_rfl) (by exact fun _ _ _ h => h) (Or.inl ⟨by rfl, ?_⟩) hHeld ?_
      rotate_left 1
      · intro w' hSw
        go_simp
        try with_reducible rfl
      try simp only [Act.put, List.setIfInBounds_toArray, List.set_cons_zero, List.set_cons_succ, List.getElem_toArray, List.getElem_cons_zero, List.getElem_cons_succ]
      refine wpAnyH_take (i := 15) (v := ?_) (by rfl) (by kernel_rfl) (by kernel_rfl) (by kernel_rfl) (by exact fun _ _ _ h => h) (Or.inl ⟨by rfl, ?_⟩) hHeld ?_
      rotate_left 1
      · intro w' hSw
        go_simp
        try with_reducible rfl
      try simp only [Act.put, List.setIfInBounds_toArray, List.set_cons_zero, List.set_cons_succ, List.getElem_toArray, List.getElem_cons_zero, List.getElem_cons_succ]
      refine wpAnyH_take (i := 16) (v := ?_) (by rfl) (by kernel_rfl) (by kernel_rfl) (by kernel_rfl) (by exact fun _ _ _ h => h) (Or.inl ⟨by rfl, ?_⟩) hHeld ?_
      rotate_left 1
      · intro w' hSw
        go_simp
        try with_reducible rfl
      try simp only [Act.put, List.setIfInBounds_toArray, List.set_cons_zero, List.set_cons_succ, List.getElem_toArray, List.getElem_cons_zero, List.getElem_cons_succ]
      refine wpAnyH_take (i := 17) (v := ?_) (by rfl) (by kernel_rfl) (by kernel_rfl) (by kernel_rfl) (by exact fun _ _ _ h => h) (Or.inl ⟨by rfl, ?_⟩) hHeld ?_
      rotate_left 1
      · intro w' hSw
        go_simp
        try with_reducible rfl
      try simp only [Act.put, List.setIfInBounds_toArray, List.set_cons_zero, List.set_cons_succ, List.getElem_toArray, List.getElem_cons_zero, List.getElem_cons_succ]
      refine wpAnyH_take (i := 18) (v := ?_) (by rfl) (by kernel_rfl) (by kernel_rfl) (by kernel_rfl) (by exact fun _ _ _ h => h) (Or.inl ⟨by rfl, ?_⟩) hHeld ?_
      rotate_left 1
      · intro w' hSw
        go_simp
        try with_reducible rfl
      try simp only [Act.put, List.setIfInBounds_toArray, List.set_cons_zero, List.set_cons_succ, List.getElem_toArray, List.getElem_cons_zero, List.getElem_cons_succ]
      refine wpAnyH_take (i := 19) (v := ?_) (by rfl) (by kernel_rfl) (by kernel_rfl) (by kernel_rfl) (by exact fun _ _ _ h => h) (Or.inl ⟨by rfl, ?_⟩) hHeld ?_
      rotate_left 1
      · intro w' hSw
        go_simp
        try with_reducible rfl
      try simp only [Act.put, List.setIfInBounds_toArray, List.set_cons_zero, List.set_cons_succ, List.getElem_toArray, List.getElem_cons_zero, List.getElem_cons_succ]
      refine wpAnyH_take (i := 20) (v := ?_) (by rfl) (by kernel_rfl) (by kernel_rfl) (by kernel_rfl) (by exact fun _ _ _ h => h) (Or.inl ⟨by rfl, ?_⟩) hHeld ?_
      rotate_left 1
      · intro w' hSw
        go_simp
        try with_reducible rfl
      try simp only [Act.put, List.setIfInBounds_toArray, List.set_cons_zero, List.set_cons_succ, List.getElem_toArray, List.getElem_cons_zero, List.getElem_cons_succ]
      refine wpAnyH_take (i := 21) (v := ?_) (by rfl) (by kernel_rfl) (by kernel_rfl) (by kernel_rfl) (by exact fun _ _ _ h => h) (Or.inl ⟨by rfl, ?_⟩) hHeld ?_
      rotate_left 1
      · intro w' hSw
        go_simp
        try with_reducible rfl
      try simp only [Act.put, List.setIfInBounds_toArray, List.set_cons_zero, List.set_cons_succ, List.getElem_toArray, List.getElem_cons_zero, List.getElem_cons_succ]
      refine wpAnyH_take (i := 22) (v := ?_) (by rfl) (by kernel_rfl) (by kernel_rfl) (by kernel_rfl) (by exact fun _ _ _ h => h) (Or.inl ⟨by rfl, ?_⟩) hHeld ?_
      rotate_left 1
      · intro w' hSw
        go_simp
        try with_reducible rfl
      try simp only [Act.put, List.setIfInBounds_toArray, List.set_cons_zero, List.set_cons_succ, List.getElem_toArray, List.getElem_cons_zero, List.getElem_cons_succ]
      refine wpAnyH_ready (rs := [23]) (by kernel_rfl) (by simp) ?_
      refine AllReadyH.cons (by rfl) (fun K hK => ?_) AllReadyH.nil
      go_simp
      refine hK.out _ _ ?_ (fun hHeld => ?_)
      · exact HKP.out _ ((Below.refl w2.drew.heap.size w2.drew).alloc (Nat.le_refl _) _)
      clear hK K
      try simp only [Act.put, List.setIfInBounds_toArray, List.set_cons_zero, List.set_cons_succ, List.getElem_toArray, List.getElem_cons_zero, List.getElem_cons_succ]
      refine wpAnyH_ready (rs := [24]) (by kernel_rfl) (by simp) ?_
      refine AllReadyH.cons (by rfl) (fun K hK => ?_) AllReadyH.nil
      refine step_append_row rfl (.tmp 17) (.tmp 40) 32 rfl 71 (.int .u32 0) 4 Tryd.underlying32 info_u32 rfl u32v (fun _ => rfl) w1.heap.size a j c (Pk.rep 4 j s1) rfl HO1.out HLEN.out (some ⟨w2.drew.heap.size, 0, none⟩) 1 1 [y3] rfl rfl HRD.out (by unfold maxLen; omega) (by omega) HSZ.out ?_
      intro a' c' w6 hown hgrw hnew
      refine hK.out _ _ ?_ (fun hHeld => ?_)
      · exact HGB.out _ hgrw
      clear hK K
      try simp only [Act.put, List.setIfInBounds_toArray, List.set_cons_zero, List.set_cons_succ, List.getElem_toArray, List.getElem_cons_zero, List.getElem_cons_succ]
      refine wpAnyH_take (i := 25) (v := ?_) (by rfl) (by kernel_rfl) (by kernel_rfl) (by kernel_rfl) (by exact fun _ _ _ h => h) (Or.inl ⟨by rfl, ?_⟩) hHeld ?_
      rotate_left 1
      · intro w' hSw
        go_simp
        try with_reducible rfl
      try simp only [Act.put, List.setIfInBounds_toArray, List.set_cons_zero, List.set_cons_succ, List.getElem_toArray, List.getElem_cons_zero, List.getElem_cons_succ]
      refine wpAnyH_done (by kernel_rfl) ?_ _
      clear hHeld
      have HX := Lib.hid (HNX.out w6 a' c' _ hown hgrw)
      clear hown hgrw hnew HNX HO1 HSZ HRD HKP HGB k0 k1 k2 k3
      go_wp2_with fail
      go_roundw
      case rel => exact ⟨j + 1, a', c', by omega, rfl, by go_num, HX⟩
      case measure => simp [intOf]; omega
    · obtain rfl : j = n := by omega
      have HD := Lib.hid (HJ.out.done G2.out)
      clear HJ
      go_wp2_with fail
      go_ret
      exact HD.out
end Go.Proofs.YtodedlnpokagfaaDoor


/-
  Layer 4: the document's In: Ratio.
-/
set_option linter.unusedVariables false
set_option linter.unusedSimpArgs false
namespace Go.Proofs.YtodedlnpokagfaaDoor
open Go.RowKit Rep

/-- In.Ratio's own memory. -/
structure RxAt (w : World) (i : Nat) (s : Pk.St) (v0 v1 v2 : Value) (W : World) : Prop where
  b3 : W.heap[w.heap.size + 1]? = some (.cells #[v0, v1, v2] 36 (0, 0))
  b2 : W.heap[w.heap.size]? = some (.cells #[.bool false, .slice none 0 0, .slice none 0 0] 36 (0, 0))
  inn : XSt W i s
  grown : w.grownBy W (some i)
  lt : i < w.heap.size
section
variable {w W W' : World} {i : Nat} {s s' : Pk.St} {v0 v1 v2 : Value}
theorem RxAt.tab (h : RxAt w i s v0 v1 v2 W) (hT : Tab w) (hn : NoByte w i) : Tab W := hT.noByte hn h.grown
theorem RxAt.start (h : XSt w i s) : RxAt w i s (.bool false) (.slice none 0 0) (.slice none 0 0) ((w.alloc (.cells #[.bool false, .slice none 0 0, .slice none 0 0] 36)).alloc (.cells #[.bool false, .slice none 0 0, .slice none 0 0] 36)) := by
  have hb : Below w.heap.size w ((w.alloc (.cells #[.bool false, .slice none 0 0, .slice none 0 0] 36)).alloc (.cells #[.bool false, .slice none 0 0, .slice none 0 0] 36)) :=
    ((Below.refl _ _).alloc (Nat.le_refl _) _).alloc (by simp) _
  refine ⟨?_, ?_, h.kept hb, grown_of_below hb _, h.lt⟩
  · have := heap_alloc_new (w.alloc (.cells #[.bool false, .slice none 0 0, .slice none 0 0] 36)) (.cells #[.bool false, .slice none 0 0, .slice none 0 0] 36)
    rwa [World.size_alloc] at this
  · rw [Below.heap_alloc _ _ _ (by simp)]; exact heap_alloc_new w _
theorem RxAt.move (h : RxAt w i s v0 v1 v2 W) (G1 : XSt W' i s') (G2 : W.grownBy W' (some i)) : RxAt w i s' v0 v1 v2 W' := by
  have hl := h.lt
  refine ⟨(G2.block _ (Array.getElem?_eq_some_iff.1 h.b3).1 (by simp; omega)).trans h.b3, (G2.block _ (Array.getElem?_eq_some_iff.1 h.b2).1 (by simp; omega)).trans h.b2, G1, grownBy_trans_new h.grown G2, hl⟩
theorem RxAt.kept (h : RxAt w i s v0 v1 v2 W) (hb : Below W.heap.size W W') : RxAt w i s v0 v1 v2 W' := h.move (h.inn.kept hb) (grown_of_below hb _)
theorem RxAt.cells (h : RxAt w i s v0 v1 v2 W) : W.cell? ⟨w.heap.size + 1, 0, none⟩ = some v0 ∧ W.cell? ⟨w.heap.size + 1, 1, none⟩ = some v1 ∧ W.cell? ⟨w.heap.size + 1, 2, none⟩ = some v2 ∧ W.frozen? ⟨w.heap.size + 1, 0, none⟩ = false ∧ W.frozen? ⟨w.heap.size + 1, 1, none⟩ = false ∧ W.frozen? ⟨w.heap.size + 1, 2, none⟩ = false := cells3 h.b3
theorem RxAt.res (h : RxAt w i s v0 v1 v2 W) : W.cell? ⟨w.heap.size, 0, none⟩ = some (.bool false) ∧ W.cell? ⟨w.heap.size, 1, none⟩ = some (.slice none 0 0) ∧ W.cell? ⟨w.heap.size, 2, none⟩ = some (.slice none 0 0) ∧ W.frozen? ⟨w.heap.size, 0, none⟩ = false ∧ W.frozen? ⟨w.heap.size, 1, none⟩ = false ∧ W.frozen? ⟨w.heap.size, 2, none⟩ = false := cells3 h.b2
theorem RxAt.put (h : RxAt w i s v0 v1 v2 W) (k : Nat) (u : Value) {u0 u1 u2 : Value} (he : (#[v0, v1, v2] : Array Value).setIfInBounds k u = #[u0, u1, u2]) : RxAt w i s u0 u1 u2 (W.setCell ⟨w.heap.size + 1, k, none⟩ u) := by
  have hl := h.lt
  have hg : W.grownBy (W.setCell ⟨w.heap.size + 1, k, none⟩ u) (some (w.heap.size + 1)) := grownBy_set (grown_refl W _)
  have h3 := h.b3
  refine ⟨?_, (Below.heap_setCell _ _ _ _ (by simp)).trans h.b2, h.inn.newer (by omega) hg, grown_new h.grown hg (fun j e => by cases e; omega), hl⟩
  simp only [World.setCell, Array.getElem?_modify, h3]
  simp [he]
end
theorem RxAt.fin {w W : World} {i : Nat} {s : Pk.St} {v0 v1 v2 : Value} (h : RxAt w i s v0 v1 v2 W) (u0 u1 u2 : Value) :
    ((((W.setCell ⟨w.heap.size, 0, none⟩ u0).setCell ⟨w.heap.size, 1, none⟩ u1).setCell ⟨w.heap.size, 2, none⟩ u2).cell? ⟨w.heap.size, 0, none⟩ = some u0 ∧ (((W.setCell ⟨w.heap.size, 0, none⟩ u0).setCell ⟨w.heap.size, 1, none⟩ u1).setCell ⟨w.heap.size, 2, none⟩ u2).cell? ⟨w.heap.size, 1, none⟩ = some u1 ∧ (((W.setCell ⟨w.heap.size, 0, none⟩ u0).setCell ⟨w.heap.size, 1, none⟩ u1).setCell ⟨w.heap.size, 2, none⟩ u2).cell? ⟨w.heap.size, 2, none⟩ = some u2) ∧
    Hid (XSt (((W.setCell ⟨w.heap.size, 0, none⟩ u0).setCell ⟨w.heap.size, 1, none⟩ u1).setCell ⟨w.heap.size, 2, none⟩ u2) i s) ∧ Hid (w.grownBy (((W.setCell ⟨w.heap.size, 0, none⟩ u0).setCell ⟨w.heap.size, 1, none⟩ u1).setCell ⟨w.heap.size, 2, none⟩ u2) (some i)) ∧
    Hid (W.grownBy (((W.setCell ⟨w.heap.size, 0, none⟩ u0).setCell ⟨w.heap.size, 1, none⟩ u1).setCell ⟨w.heap.size, 2, none⟩ u2) (some w.heap.size)) := by
  have hl := h.lt
  have hg : W.grownBy (((W.setCell ⟨w.heap.size, 0, none⟩ u0).setCell ⟨w.heap.size, 1, none⟩ u1).setCell ⟨w.heap.size, 2, none⟩ u2) (some w.heap.size) := grownBy_set (grownBy_set (grownBy_set (grown_refl W _)))
  have h2 := h.b2
  have hh : (((W.setCell ⟨w.heap.size, 0, none⟩ u0).setCell ⟨w.heap.size, 1, none⟩ u1).setCell ⟨w.heap.size, 2, none⟩ u2).heap[w.heap.size]? = some (.cells #[u0, u1, u2] 36 (0, 0)) := by
    simp only [World.setCell, Array.getElem?_modify, h2]
    simp
  obtain ⟨a0, a1, a2, _⟩ := cells3 hh
  exact ⟨⟨a0, a1, a2⟩, Lib.hid (h.inn.newer hl hg), Lib.hid (grown_new h.grown hg (fun j e => by cases e; omega)), Lib.hid hg⟩
/-- A call on an In gives a ratio; the In is in this state then, and nothing else has changed. -/
def XTakesR (i : Nat) (b : Bool) (xs ds : List Nat) (s : Pk.St) (w : World) (e : Ending) (w' : World) : Prop :=
  ∃ a1 c1 a2 c2, e = .returned (.agg #[.bool b, .slice a1 xs.length c1, .slice a2 ds.length c2]) ∧ Hid (Lst w' (w.heap.size + 1) a1 c1 xs ∧ Lst w' (w.heap.size + 1) a2 c2 ds) ∧ Hid (XSt w' i s) ∧ Hid (w.grownBy w' (some i))
theorem xratio_none {w W : World} {i : Nat} {s : Pk.St} (h1 : XSt W i none) (h2 : w.grownBy W (some i)) (hok : Pk.ratOK s = false) :
    XTakesR i (Pk.ratS s) (Pk.ratX s) (Pk.ratD s) (Pk.ratN s) w (.returned (.agg #[.bool false, .slice none 0 0, .slice none 0 0])) W := by
  unfold Pk.ratS Pk.ratX Pk.ratD Pk.ratN
  simp only [hok, Bool.false_and, Bool.false_eq_true, if_false]
  exact ⟨none, 0, none, 0, rfl, Lib.hid ⟨.nil _ _, .nil _ _⟩, Lib.hid h1, Lib.hid h2⟩

set_option maxRecDepth 100000 in
set_option maxHeartbeats 4000000 in
theorem XRatio_any {w : World} {i : Nat} {s : Pk.St} (h : XSt w i s) (hT : Tab w) (hsm : Pk.ratSm s) :
    Calls Tryd.prog 23 #[.pointer (some ⟨i, 0, none⟩)] w (XTakesR i (Pk.ratS s) (Pk.ratX s) (Pk.ratD s) (Pk.ratN s) w) := by
  obtain ⟨W0, hW0⟩ : ∃ W0, W0 = ((w.alloc (.cells #[.bool false, .slice none 0 0, .slice none 0 0] 36)).alloc (.cells #[.bool false, .slice none 0 0, .slice none 0 0] 36)) := ⟨_, rfl⟩
  have HS := Lib.hid (RxAt.start h)
  rw [← hW0] at HS
  have HW0 := Lib.hid hW0
  have HTB := Lib.hid hT
  have HNB := Lib.hid h.no
  have HF := Lib.hid (XFlag_any HS.out.inn)
  have hil := h.lt
  obtain ⟨p0, p1, p2, q0, q1, q2⟩ := HS.out.cells
  have HSM : Hid ((Pk.listV 4 (Pk.flagN s)).length ≤ 10000 ∧ (Pk.listV 4 (Pk.listN 4 (Pk.flagN s))).length ≤ 10000) := Lib.hid hsm
  clear h hT hW0 hsm
  go_enter Tryd.func23, Tryd.ntmps23
  go_wp2_with fail
  rw [← HW0.out]
  refine HF.out.mono ?_
  rintro e w1 ⟨rfl, G1, G2⟩
  have HS1 := Lib.hid (HS.out.move G1.out G2.out)
  have HB1 := Lib.hid (xst_byt G1.out)
  obtain ⟨p0, p1, p2, q0, q1, q2⟩ := HS1.out.cells
  have HS2 := Lib.hid (HS1.out.put 0 (.bool (Pk.flagV s)) rfl)
  clear HF HS G1 G2 HS1
  obtain ⟨b, hb⟩ : ∃ b, b = Pk.flagV s := ⟨_, rfl⟩
  have HBV := Lib.hid hb
  rw [← hb] at HS2 ⊢
  clear hb
  have HL1 := Lib.hid (Xlimbs_any HS2.out.inn)
  obtain ⟨sf, hsf⟩ : ∃ sf, sf = Pk.flagN s := ⟨_, rfl⟩
  have HSF := Lib.hid hsf
  rw [← hsf] at HS2 HL1
  clear hsf
  go_wp2_with fail
  refine HL1.out.mono ?_
  rintro e w2 ⟨a1, c1, rfl, M1, M2, M3, G1, G2⟩
  have HS3 := Lib.hid (HS2.out.move G1.out G2.out)
  have HLM1 : Hid (Lim (Pk.listV 4 sf)) := Lib.hid (by rw [HSF.out]; exact listV_lim HB1.out)
  have HB2 := Lib.hid (xst_byt G1.out)
  have HA1 : Hid (Lst w2 (w.heap.size + 1) a1 c1 (Pk.listV 4 sf)) := Lib.hid ⟨M1.out, M2.out.1, M2.out.2, fun j e => by have := M3.out j e; have := (Array.getElem?_eq_some_iff.1 HS2.out.b3).1; omega⟩
  obtain ⟨xs, hxs⟩ : ∃ xs, xs = Pk.listV 4 sf := ⟨_, rfl⟩
  obtain ⟨s2, hs2⟩ : ∃ s2, s2 = Pk.listN 4 sf := ⟨_, rfl⟩
  have HXS := Lib.hid hxs
  have HSS := Lib.hid hs2
  rw [← hxs] at HA1 HLM1 ⊢
  rw [← hs2] at HS3 HB2
  clear hxs hs2 p0 p1 p2 q0 q1 q2
  obtain ⟨p0, p1, p2, q0, q1, q2⟩ := HS3.out.cells
  have HS4 := Lib.hid (HS3.out.put 1 (.slice a1 xs.length c1) rfl)
  have HA2 : Hid (Lst (w2.setCell ⟨w.heap.size + 1, 1, none⟩ (.slice a1 xs.length c1)) (w.heap.size + 1) a1 c1 xs) := Lib.hid (HA1.out.past (grownBy_set (grown_refl _ _)) (Nat.le_refl _))
  have HL2 := Lib.hid (Xlimbs_any HS4.out.inn)
  clear HL1 HS2 HS3 M1 M2 M3 G1 G2 HA1
  go_wp2_with fail
  refine HL2.out.mono ?_
  rintro e w3 ⟨a2, c2, rfl, M1, M2, M3, G1, G2⟩
  have HS5 := Lib.hid (HS4.out.move G1.out G2.out)
  have HLM2 : Hid (Lim (Pk.listV 4 s2)) := Lib.hid (listV_lim HB2.out)
  have HA3 : Hid (Lst w3 (w.heap.size + 1) a1 c1 xs) := Lib.hid (HA2.out.past G2.out (by have := HS4.out.lt; omega))
  have HD3 : Hid (Lst w3 (w.heap.size + 1) a2 c2 (Pk.listV 4 s2)) := Lib.hid ⟨M1.out, M2.out.1, M2.out.2, fun j e => by have := M3.out j e; have := (Array.getElem?_eq_some_iff.1 HS4.out.b3).1; omega⟩
  obtain ⟨ds, hds⟩ : ∃ ds, ds = Pk.listV 4 s2 := ⟨_, rfl⟩
  obtain ⟨s3, hs3⟩ : ∃ s3, s3 = Pk.listN 4 s2 := ⟨_, rfl⟩
  have HDS := Lib.hid hds
  have HS3' := Lib.hid hs3
  rw [← hds] at HD3 HLM2 ⊢
  rw [← hs3] at HS5
  clear hds hs3 p0 p1 p2 q0 q1 q2
  obtain ⟨p0, p1, p2, q0, q1, q2⟩ := HS5.out.cells
  obtain ⟨ai, ci, BI, atI, hI⟩ := HS5.out.inn
  obtain ⟨i0, i2, i1, j0, j2, j1⟩ := hI.cells
  have j3 := (Array.getElem?_eq_some_iff.1 hI.blk).1
  obtain ⟨r0, r1, r2, t0, t1, t2⟩ := HS5.out.res
  have HS6 := Lib.hid (HS5.out.put 2 (.slice a2 ds.length c2) rfl)
  have HA4 : Hid (Lst (w3.setCell ⟨w.heap.size + 1, 2, none⟩ (.slice a2 ds.length c2)) (w.heap.size + 1) a1 c1 xs) := Lib.hid (HA3.out.past (grownBy_set (grown_refl _ _)) (Nat.le_refl _))
  have HD4 : Hid (Lst (w3.setCell ⟨w.heap.size + 1, 2, none⟩ (.slice a2 ds.length c2)) (w.heap.size + 1) a2 c2 ds) := Lib.hid (HD3.out.past (grownBy_set (grown_refl _ _)) (Nat.le_refl _))
  clear HL2 HS4 HS5 M1 M2 M3 G1 G2 HA2 HA3 HD3 HB1 HB2
  have HOK : Hid (Pk.ratOK s = (s3.isSome && rightB b xs ds)) := Lib.hid (by unfold Pk.ratOK; rw [HS3'.out, HDS.out, HSS.out, HXS.out, HSF.out, HBV.out])
  have HP : Hid (Pk.ratS s = (Pk.ratOK s && b) ∧ Pk.ratX s = (if Pk.ratOK s then xs else []) ∧ Pk.ratD s = (if Pk.ratOK s then ds else []) ∧ Pk.ratN s = (if Pk.ratOK s then s3 else none)) := Lib.hid (by
    unfold Pk.ratS Pk.ratX Pk.ratD Pk.ratN
    rw [HS3'.out, HDS.out, HSS.out, HXS.out, HSF.out, HBV.out]
    exact ⟨rfl, rfl, rfl, rfl⟩)
  have HLE : Hid (xs.length ≤ 10000 ∧ ds.length ≤ 10000) := Lib.hid (by have h1 := HSM.out; rw [HXS.out, HDS.out, HSS.out, HSF.out]; exact h1)
  clear hI HSM HXS HSS HDS HS3' HSF HBV
  have HRT : Hid (Calls Tryd.prog 41 #[.agg #[.bool b, .slice a1 xs.length c1, .slice a2 ds.length c2]] (w3.setCell ⟨w.heap.size + 1, 2, none⟩ (.slice a2 ds.length c2)) (GivesB (rightB b xs ds) (w3.setCell ⟨w.heap.size + 1, 2, none⟩ (.slice a2 ds.length c2)))) := Lib.hid (RightR_any (s := b) (HA4.out.num HLM1.out HLE.out.1) (HD4.out.num HLM2.out HLE.out.2) HLE.out.1 HLE.out.2)
  cases hz : s3.isNone
  case true =>
    obtain rfl : s3 = none := by simpa using hz
    have HNO : Hid (Pk.ratOK s = false) := Lib.hid (by rw [HOK.out]; rfl)
    obtain ⟨aJ, cJ, BJ, atJ, hJ⟩ := HS6.out.inn
    have HS7 := Lib.hid (HS6.out.move hJ.wrong.1 hJ.wrong.2)
    clear hJ
    obtain ⟨r0, r1, r2, t0, t1, t2⟩ := HS7.out.res
    have HFI := Lib.hid (HS7.out.fin (.bool false) (.slice none 0 0) (.slice none 0 0))
    clear HS6 HS7
    rw [hz] at i1
    clear hz HRT HOK HP
    go_wp2_with fail
    obtain ⟨⟨r0, r1, r2⟩, k1, k2, _⟩ := HFI.out
    exact bodyPost_ret (v := .agg #[.bool false, .slice none 0 0, .slice none 0 0]) (by simp [results, Tryd.results23, go_sem, r0, r1, r2]) rfl (xratio_none k1.out k2.out HNO.out)
  case false =>
    rw [hz] at i1
    cases hr : rightB b xs ds
    case false =>
      have HNO : Hid (Pk.ratOK s = false) := Lib.hid (by rw [HOK.out, hr, Bool.and_false])
      rw [hr] at HRT
      clear hz hr HOK HP
      go_wp2_with fail
      refine HRT.out.mono ?_
      rintro e w6 ⟨rfl, hb6⟩
      have HS7 := Lib.hid (HS6.out.kept hb6)
      obtain ⟨aJ, cJ, BJ, atJ, hJ⟩ := HS7.out.inn
      obtain ⟨i0, i2, i1, j0, j2, j1⟩ := hJ.cells
      have HS8 := Lib.hid (HS7.out.move hJ.wrong.1 hJ.wrong.2)
      clear hJ
      obtain ⟨r0, r1, r2, t0, t1, t2⟩ := HS8.out.res
      have HFI := Lib.hid (HS8.out.fin (.bool false) (.slice none 0 0) (.slice none 0 0))
      clear HS7 HS8
      clear HRT HS6 hb6
      go_wp2_with fail
      obtain ⟨⟨r0, r1, r2⟩, k1, k2, _⟩ := HFI.out
      exact bodyPost_ret (v := .agg #[.bool false, .slice none 0 0, .slice none 0 0]) (by simp [results, Tryd.results23, go_sem, r0, r1, r2]) rfl (xratio_none k1.out k2.out HNO.out)
    case true =>
      have HYES : Hid (Pk.ratOK s = true) := Lib.hid (by rw [HOK.out, hr, Bool.and_true]; cases s3 with | none => simp at hz | some _ => rfl)
      rw [hr] at HRT
      clear hz hr HOK
      go_wp2_with fail
      refine HRT.out.mono ?_
      rintro e w6 ⟨rfl, hb6⟩
      have HS7 := Lib.hid (HS6.out.kept hb6)
      have HA7 := Lib.hid (HA4.out.kept hb6)
      have HD7 := Lib.hid (HD4.out.kept hb6)
      obtain ⟨p0, p1, p2, q0, q1, q2⟩ := HS7.out.cells
      obtain ⟨r0, r1, r2, t0, t1, t2⟩ := HS7.out.res
      have HFI := Lib.hid (HS7.out.fin (.bool b) (.slice a1 xs.length c1) (.slice a2 ds.length c2))
      clear HRT HS6 hb6 HA4 HD4 HS7
      go_wp2_with fail
      obtain ⟨⟨r0, r1, r2⟩, k1, k2, k3⟩ := HFI.out
      refine bodyPost_ret (v := .agg #[.bool b, .slice a1 xs.length c1, .slice a2 ds.length c2]) (by simp [results, Tryd.results23, go_sem, r0, r1, r2]) rfl ?_
      obtain ⟨e0, e1, e2, e3⟩ := HP.out
      rw [e0, e1, e2, e3, HYES.out]
      exact ⟨a1, c1, a2, c2, rfl, Lib.hid ⟨HA7.out.past k3.out (by omega), HD7.out.past k3.out (by omega)⟩, k1, k2⟩
end Go.Proofs.YtodedlnpokagfaaDoor

