/-
  The law's helper told, and what each bench's answer and the document's are, one behind the other.
-/
import Derived.Test.YtaiemcacpimcjaaDoorSt
import Derived.Test.YtaiemcacpimcjaaDoorReads
import Derived.Test.YtaiemcacpimcjaaDoorDigMul
set_option linter.unusedVariables false
set_option linter.unusedSimpArgs false
namespace Go.Proofs.YtaiemcacpimcjaaDoor
open Go.RowKit Rep

theorem top_L (n : Nat) : topB (L n) = true := by
  unfold topB
  rcases Nat.eq_zero_or_pos (L n).length with h | h
  · rw [h]; rfl
  · have := top_limb (M := n) h
    simp only [Bool.or_eq_true, decide_eq_true_eq]
    exact .inr (by omega)

set_option maxRecDepth 100000 in
set_option maxHeartbeats 2000000 in
theorem told_any (b m n : Nat) (a ad : Option Addr) (c cd : Nat) (w : World) (hb : Bench w b m (outO m false n)) (ha : NumAt w a c (outN m false n)) (hd : DAt w ad cd n) (hm : m ≤ maxLen) (hl : (D n).length ≤ 1000000) (hln : (L n).length ≤ 1000000) :
    Calls Tryd.prog 13 #[.pointer (some ⟨b, 0, none⟩), .int .i64 (m : Int), .slice a (L (outN m false n)).length c, .slice ad (D n).length cd] w fun e w' => e = .returned (.bool true) ∧ Below w.heap.size w w' := by
  have HLB := Lib.hid (Limbs_any ad cd (D n) w hd.1 (D_dig n) (by omega))
  rw [val_D] at HLB
  have HBE := Lib.hid hb
  have HA := Lib.hid ha
  unfold maxLen at hm
  clear hd hb ha
  by_cases hov : m < (L n).length
  · have ho : outO m false n = true := by simp [outO, hov]
    have hN : outN m false n = 0 := by unfold outN; rw [ho]; rfl
    rw [ho] at HBE
    rw [hN]
    have hz : (((L 0).length : Int) == 0) = true := rfl
    have hgt : (m : Int) < ((L n).length : Int) := by omega
    clear HA ho hN
    go_enter Tryd.func13, Tryd.ntmps13
    go_wp2_with fail
    refine HLB.out.mono ?_
    rintro e w2 ⟨a2, c2, rfl, ho2, hb2⟩
    have HB := Lib.hid hb2
    have HO := Lib.hid (over_any w2 b m true (HBE.out.kept hb2))
    clear ho2 hb2 HLB HBE
    go_wp2_with fail
    refine HO.out.mono ?_
    rintro e w3 ⟨rfl, rfl⟩
    go_wp2_with fail
    go_ret
    exact ⟨rfl, HB.out⟩
  · have ho : outO m false n = false := by simp [outO]; omega
    have hN : outN m false n = n := by unfold outN; rw [ho]; rfl
    rw [ho] at HBE
    rw [hN] at HA ⊢
    have hgt : ¬ (m : Int) < ((L n).length : Int) := by omega
    have hgt2 : decide (m < (L n).length) = false := decide_eq_false hov
    clear ho hN
    go_enter Tryd.func13, Tryd.ntmps13
    go_wp2_with fail
    refine HLB.out.mono ?_
    rintro e w2 ⟨a2, c2, rfl, ho2, hb2⟩
    have HB := Lib.hid hb2
    have HA2 := Lib.hid (HA.out.kept hb2)
    have HO := Lib.hid (over_any w2 b m false (HBE.out.kept hb2))
    have HS := Lib.hid (Same_any a a2 c c2 (L n) (L n) w2 HA2.out.1 ho2.reads (by omega))
    rw [show decide (L n = L n) = true from decide_eq_true rfl] at HS
    have HRT := Lib.hid (fun nd => Right_any a c (L n) (w2.drewN nd) ⟨L_lim n, HA2.out.1, HA2.out.2.1, HA2.out.2.2⟩)
    rw [top_L] at HRT
    clear ho2 hb2 HLB HBE HA HA2
    go_wp2_with fail
    refine HO.out.mono ?_
    rintro e w3 ⟨rfl, rfl⟩
    go_wp2_with fail
    refine HS.out.mono ?_
    rintro e w3 ⟨rfl, nd, rfl⟩
    have HR2 := Lib.hid (HRT.out nd)
    have HB2 : Hid (Below w.heap.size w (w2.drewN nd)) := Lib.hid ⟨HB.out.os, HB.out.tape, HB.out.output, HB.out.size, HB.out.block⟩
    clear HRT HS HO
    go_wp2_with fail
    refine HR2.out.mono ?_
    rintro e w4 ⟨rfl, rfl⟩
    go_wp2_with fail
    go_ret
    exact ⟨rfl, HB2.out⟩

/-- Two numbers, and their digits. -/
structure StT (base : World) (ax : Option Addr) (cx : Nat) (xs : List Nat) (ay : Option Addr) (cy : Nat) (ys : List Nat) (a1 : Option Addr) (c1 : Nat) (a2 : Option Addr) (c2 : Nat) (X Y : Nat) (W : World) : Prop where
  below : Below base.heap.size base W
  tab : Tab W
  x : NumIn W ax cx xs
  y : NumIn W ay cy ys
  dx : DAt W a1 c1 X
  dy : DAt W a2 c2 Y
  ex : V xs = X
  ey : V ys = Y
  lx : xs.length ≤ 12
  ly : ys.length ≤ 12
section
variable {base : World} {ax : Option Addr} {cx : Nat} {xs : List Nat} {ay : Option Addr} {cy : Nat} {ys : List Nat} {a1 : Option Addr} {c1 : Nat} {a2 : Option Addr} {c2 X Y m : Nat} {W : World}
theorem StT.kept {W' : World} (h : StT base ax cx xs ay cy ys a1 c1 a2 c2 X Y W) (hb : Below W.heap.size W W') : StT base ax cx xs ay cy ys a1 c1 a2 c2 X Y W' :=
  ⟨h.below.trans (hb.mono h.below.size), h.tab.kept hb, h.x.kept hb, h.y.kept hb, h.dx.kept hb, h.dy.kept hb, h.ex, h.ey, h.lx, h.ly⟩
theorem StT.lX (h : StT base ax cx xs ay cy ys a1 c1 a2 c2 X Y W) : (L X).length ≤ 12 := by rw [← h.ex]; exact V_len h.x.lim h.lx
theorem StT.lY (h : StT base ax cx xs ay cy ys a1 c1 a2 c2 X Y W) : (L Y).length ≤ 12 := by rw [← h.ey]; exact V_len h.y.lim h.ly
theorem D_of_L {n k : Nat} (h : (L n).length ≤ k) : (D n).length ≤ 10 * k := by
  have := D_len_limbs (L_lim n)
  rw [V_L] at this
  omega

/-- What follows of a call of a fresh bench. -/
def Next (base : World) (ax : Option Addr) (cx : Nat) (xs : List Nat) (ay : Option Addr) (cy : Nat) (ys : List Nat) (a1 : Option Addr) (c1 : Nat) (a2 : Option Addr) (c2 X Y m b : Nat) (rf : FuncId) (W : World) (e : Ending) (W2 : World) : Prop :=
  ∃ a c len, e = .returned (.slice a len c) ∧ Hid (Calls Tryd.prog rf #[.slice a1 (D X).length c1, .slice a2 (D Y).length c2] W2 fun e W3 => ∃ ad cd ld, e = .returned (.slice ad ld cd) ∧
    Hid (Calls Tryd.prog 13 #[.pointer (some ⟨b, 0, none⟩), .int .i64 (m : Int), .slice a len c, .slice ad ld cd] W3 fun e W4 => e = .returned (.bool true) ∧ Hid (StT base ax cx xs ay cy ys a1 c1 a2 c2 X Y W4)))

theorem StT.seg (h : StT base ax cx xs ay cy ys a1 c1 a2 c2 X Y W) {n : Nat} {rf : FuncId} (hm : m ≤ maxLen) (hl : (L n).length ≤ 1000)
    (href : ∀ W2, StT base ax cx xs ay cy ys a1 c1 a2 c2 X Y W2 → Calls Tryd.prog rf #[.slice a1 (D X).length c1, .slice a2 (D Y).length c2] W2 (GivesAtD n W2)) {e : Ending} {W2 : World}
    (hg : GivesOut W.heap.size m false n (w := (W.alloc (.cells #[.int .i64 (m : Int), .bool false] 58))) e W2) : Next base ax cx xs ay cy ys a1 c1 a2 c2 X Y m W.heap.size rf W e W2 := by
  obtain ⟨a, c, rfl, hat, hb, hgr⟩ := hg
  have hB : Below W.heap.size W W2 := ((Below.refl W.heap.size W).alloc (Nat.le_refl _) _).grown hgr (by simp) (fun k hk => by cases hk; exact Nat.le_refl _)
  refine ⟨a, c, _, rfl, Lib.hid ?_⟩
  refine (href W2 (h.kept hB)).mono ?_
  rintro e W3 ⟨ad, cd, rfl, hd, hb3⟩
  refine ⟨ad, cd, _, rfl, Lib.hid ?_⟩
  have hld := D_of_L hl
  refine (told_any W.heap.size m n a ad c cd W3 (hb.kept hb3) (hat.kept hb3) hd hm (by omega) (by omega)).mono ?_
  rintro e W4 ⟨rfl, hb4⟩
  exact ⟨rfl, Lib.hid (((h.kept hB).kept hb3).kept hb4)⟩

theorem GivesD.at {n : Nat} {w w' : World} {e : Ending} (h : GivesD w.heap.size n w e w') : GivesAtD n w e w' := by
  obtain ⟨a, c, he, hd, hb, _⟩ := h
  exact ⟨a, c, he, hd, hb⟩
theorem StT.lDX (h : StT base ax cx xs ay cy ys a1 c1 a2 c2 X Y W) : (D X).length ≤ 120 := D_of_L h.lX
theorem StT.lDY (h : StT base ax cx xs ay cy ys a1 c1 a2 c2 X Y W) : (D Y).length ≤ 120 := D_of_L h.lY

abbrev fresh (W : World) (m : Nat) : World := W.alloc (.cells #[.int .i64 (m : Int), .bool false] 58)
theorem fresh_below (W : World) (m : Nat) : Below W.heap.size W (fresh W m) := (Below.refl _ _).alloc (Nat.le_refl _) _
theorem fresh_bench (W : World) (m : Nat) : Bench (fresh W m) W.heap.size m false := GivesBench.bench

theorem StT.add (h : StT base ax cx xs ay cy ys a1 c1 a2 c2 X Y W) (hm : m ≤ maxLen) :
    Calls Tryd.prog 14 #[.pointer (some ⟨W.heap.size, 0, none⟩), .slice ax xs.length cx, .slice ay ys.length cy] (fresh W m) (Next base ax cx xs ay cy ys a1 c1 a2 c2 X Y m W.heap.size 15 W) := by
  have l1 := L_add h.lX h.lY
  refine (Add_any W.heap.size m ax ay xs ys cx cy _ false (fresh_bench W m) (h.x.kept (fresh_below W m)) (h.y.kept (fresh_below W m))).mono fun e W2 hg => ?_
  rw [h.ex, h.ey] at hg
  exact h.seg hm (by omega) (fun W2 h2 => (AddD_any a1 a2 c1 c2 X Y W2 h2.dx h2.dy (by have := h2.lDX; omega) (by have := h2.lDY; omega)).mono fun e w' hd => hd.at) hg
theorem StT.sub (h : StT base ax cx xs ay cy ys a1 c1 a2 c2 X Y W) (hm : m ≤ maxLen) :
    Calls Tryd.prog 16 #[.pointer (some ⟨W.heap.size, 0, none⟩), .slice ax xs.length cx, .slice ay ys.length cy] (fresh W m) (Next base ax cx xs ay cy ys a1 c1 a2 c2 X Y m W.heap.size 17 W) := by
  have l1 := L_le h.lX (Nat.sub_le X Y)
  refine (Sub_any W.heap.size m ax ay xs ys cx cy _ false (fresh_bench W m) (h.x.kept (fresh_below W m)) (h.y.kept (fresh_below W m))).mono fun e W2 hg => ?_
  rw [h.ex, h.ey] at hg
  exact h.seg hm (by omega) (fun W2 h2 => (SubD_any a1 a2 c1 c2 X Y W2 h2.dx h2.dy (by have := h2.lDX; omega) (by have := h2.lDY; omega)).mono fun e w' hd => hd.at) hg
theorem StT.mul (h : StT base ax cx xs ay cy ys a1 c1 a2 c2 X Y W) (hm : m ≤ maxLen) :
    Calls Tryd.prog 18 #[.pointer (some ⟨W.heap.size, 0, none⟩), .slice ax xs.length cx, .slice ay ys.length cy] (fresh W m) (Next base ax cx xs ay cy ys a1 c1 a2 c2 X Y m W.heap.size 19 W) := by
  have l1 := L_mul h.lX h.lY
  refine (Mul_any W.heap.size m ax ay xs ys cx cy _ false (fresh_bench W m) hm (h.x.kept (fresh_below W m)) (h.y.kept (fresh_below W m))).mono fun e W2 hg => ?_
  rw [h.ex, h.ey] at hg
  exact h.seg hm (by omega) (fun W2 h2 => (MulD_any a1 a2 c1 c2 X Y W2 h2.dx h2.dy (by have := h2.lDX; omega) (by have := h2.lDY; omega)).mono fun e w' hd => hd.at) hg
theorem StT.gcd (h : StT base ax cx xs ay cy ys a1 c1 a2 c2 X Y W) (hm : m ≤ maxLen) :
    Calls Tryd.prog 20 #[.pointer (some ⟨W.heap.size, 0, none⟩), .slice ax xs.length cx, .slice ay ys.length cy] (fresh W m) (Next base ax cx xs ay cy ys a1 c1 a2 c2 X Y m W.heap.size 21 W) := by
  have l1 := L_gcd h.lX h.lY
  refine (Gcd_any W.heap.size m ax ay xs ys cx cy _ false (fresh_bench W m) (h.x.kept (fresh_below W m)) (h.y.kept (fresh_below W m)) (h.tab.kept (fresh_below W m)) (by have := h.lx; omega) (by have := h.ly; omega)).mono fun e W2 hg => ?_
  rw [h.ex, h.ey] at hg
  exact h.seg hm (by omega) (fun W2 h2 => GcdD_any a1 a2 c1 c2 X Y W2 h2.dx h2.dy (by have := h2.lDX; omega) (by have := h2.lDY; omega)) hg

/-- Behind the division: its two answers, and the document's. -/
structure StV (base : World) (ax : Option Addr) (cx : Nat) (xs : List Nat) (ay : Option Addr) (cy : Nat) (ys : List Nat) (a1 : Option Addr) (c1 : Nat) (a2 : Option Addr) (c2 X Y m b : Nat) (o : Bool) (aq : Option Addr) (cq : Nat) (ar : Option Addr) (cr q r q' r' : Nat) (au : Option Addr) (cs : Nat) (at' : Option Addr) (ct : Nat) (W : World) : Prop where
  st : StT base ax cx xs ay cy ys a1 c1 a2 c2 X Y W
  bench : Bench W b m o
  nq : NumAt W aq cq q'
  nr : NumAt W ar cr r'
  ds : DAt W au cs q
  dt : DAt W at' ct r
theorem StV.kept {W W' : World} {b : Nat} {o : Bool} {aq ar au at' : Option Addr} {cq cr cs ct q r q' r' : Nat} (h : StV base ax cx xs ay cy ys a1 c1 a2 c2 X Y m b o aq cq ar cr q r q' r' au cs at' ct W) (hb : Below W.heap.size W W') :
    StV base ax cx xs ay cy ys a1 c1 a2 c2 X Y m b o aq cq ar cr q r q' r' au cs at' ct W' :=
  ⟨h.st.kept hb, h.bench.kept hb, h.nq.kept hb, h.nr.kept hb, h.ds.kept hb, h.dt.kept hb⟩

theorem StT.div (h : StT base ax cx xs ay cy ys a1 c1 a2 c2 X Y W) {q r : Nat} (hq : X / Y = q) (hr : remN X Y = r) :
    Calls Tryd.prog 22 #[.pointer (some ⟨W.heap.size, 0, none⟩), .slice ax xs.length cx, .slice ay ys.length cy] (fresh W m) fun e W2 => ∃ aq cq ar cr q' r' o, (o = divO m false q r ∧ q' = (if o = true then 0 else q) ∧ r' = if o = true then 0 else r) ∧
      e = .returned (.tuple #[.slice aq (L q').length cq, .slice ar (L r').length cr]) ∧ Hid (Calls Tryd.prog 23 #[.slice a1 (D X).length c1, .slice a2 (D Y).length c2] W2 fun e W3 => ∃ au cs at' ct, e = .returned (.tuple #[.slice au (D q).length cs, .slice at' (D r).length ct]) ∧
        Hid (StV base ax cx xs ay cy ys a1 c1 a2 c2 X Y m W.heap.size o aq cq ar cr q r q' r' au cs at' ct W3)) := by
  subst hq hr
  have hlx := h.lx
  refine (Div_any W.heap.size m ax ay xs ys cx cy _ false (fresh_bench W m) (h.x.kept (fresh_below W m)) (h.y.kept (fresh_below W m)) (by omega)).mono ?_
  intro e W2 hg
  rw [h.ex, h.ey] at hg
  obtain ⟨aq, cq, ar, cr, rfl, n1, n2, hb, hgr⟩ := hg
  have hB : Below W.heap.size W W2 := (fresh_below W m).grown hgr (by simp) (fun k hk => by cases hk; exact Nat.le_refl _)
  refine ⟨aq, cq, ar, cr, _, _, _, ⟨rfl, rfl, rfl⟩, rfl, Lib.hid ?_⟩
  have h2 := h.kept hB
  refine (DivD_any a1 a2 c1 c2 X Y W2 h2.dx h2.dy (by have := h2.lDX; omega) (by have := h2.lDY; omega)).mono ?_
  rintro e W3 ⟨au, cs, at', ct, rfl, d1, d2, hb3⟩
  exact ⟨au, cs, at', ct, rfl, Lib.hid ⟨h2.kept hb3, hb.kept hb3, n1.kept hb3, n2.kept hb3, d1, d2⟩⟩
end
end Go.Proofs.YtaiemcacpimcjaaDoor
