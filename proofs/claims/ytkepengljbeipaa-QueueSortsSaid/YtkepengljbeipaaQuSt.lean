/-
  Layer 17: a law's own queue, on its way; the document's example.
-/
import Derived.Test.YtkepengljbeipaaQuCalls
import Derived.Test.YtkepengljbeipaaQuBump
import Derived.Test.YtkepengljbeipaaQuRNew
set_option linter.unusedVariables false
set_option linter.unusedSimpArgs false
namespace Go.Proofs.Ytkepengljbeipaa
open Go.RowKit Qu

/-- A queue that a law has made, and that is right. -/
structure St (w0 w : World) (b s h n : Nat) (sc l : List Int) (len : Nat) : Prop where
  q : QAt w b s h n sc l len
  rt : Rt sc l len
  own : w0.heap.size ≤ b ∧ w0.heap.size ≤ s ∧ w0.heap.size ≤ h
  below : Below w0.heap.size w0 w
  small : n ≤ 60
/-- What a call makes of it. -/
def Acts (v : Value) (P : List Int → List Int → Nat → Prop) (w0 : World) (b s h n : Nat) (w : World) (e : Ending) (w' : World) : Prop :=
  e = .returned v ∧ ∃ sc l len, St w0 w' b s h n sc l len ∧ Chg (Foot b s h) w w' ∧ P sc l len
section
variable {w0 w w' : World} {b s h n : Nat} {sc l : List Int} {len : Nat}
theorem St.rng (x : St w0 w b s h n sc l len) : Rng l n len := fun i hi => by have := x.rt.rng i hi; rw [x.q.rows.ls] at this; exact this
theorem St.kept (x : St w0 w b s h n sc l len) (hb : Below w.heap.size w w') : St w0 w' b s h n sc l len := ⟨x.q.kept hb, x.rt, x.own, x.below.trans (hb.mono x.below.size), x.small⟩
theorem foot_own {k : Nat} (x : St w0 w b s h n sc l len) (hk : Foot b s h k) : w0.heap.size ≤ k := by
  have := x.own
  rcases hk with rfl | rfl | rfl <;> omega
theorem St.below_of (x : St w0 w b s h n sc l len) (c : Chg (Foot b s h) w w') : Below w0.heap.size w0 w' := x.below.trans (c.below (fun k hk => foot_own x hk) x.below.size)
theorem St.to {v : Value} {S : Nat → Prop} {e : Ending} {sc' l' : List Int} {len' : Nat} {P : List Int → List Int → Nat → Prop} (x : St w0 w b s h n sc l len) (g : GivesQ v S b s h n sc' l' len' w e w') (hS : ∀ k, S k → Foot b s h k) (hr : Rt sc' l' len') (hP : P sc' l' len') : Acts v P w0 b s h n w e w' :=
  ⟨g.1, sc', l', len', ⟨g.2.1, hr, x.own, x.below_of (g.2.2.mono fun k _ hk => hS k hk), x.small⟩, g.2.2.mono fun k _ hk => hS k hk, hP⟩
theorem St.stay {v : Value} {e : Ending} {P : List Int → List Int → Nat → Prop} (x : St w0 w b s h n sc l len) (g : GivesV v w e w') (hP : P sc l len) : Acts v P w0 b s h n w e w' :=
  ⟨g.1, sc, l, len, x.kept g.2, .of_below g.2, hP⟩
/-- What Push makes. -/
def PushP (sc l : List Int) (len : Nat) (v : Int) (sc' l' : List Int) (len' : Nat) : Prop := sc' = sc ∧ ∀ u, Mem l' len' u ↔ (Mem l len u ∨ u = v)
theorem St.push (x : St w0 w b s h n sc l len) (v : Int) (h0 : 0 ≤ v) (h1 : v < (n : Int)) : Calls Try.prog 8 #[.pointer (some ⟨b, 0, none⟩), .int .i64 v] w (Acts (.int .i64 0) (PushP sc l len v) w0 b s h n w) := by
  have hv1 : v < (sc.length : Int) := by rw [x.q.rows.ls]; exact h1
  by_cases hm : Mem l len v
  · exact (Push_in x.q v h0 h1 hm).mono fun e w' g => x.stay g ⟨rfl, fun u => ⟨.inl, fun e => e.elim id (fun e => e ▸ hm)⟩⟩
  · have hr := x.rt.room h0 hv1 hm
    rw [x.q.rows.ll] at hr
    obtain ⟨r1, r2⟩ := x.rt.push h0 hv1 hm
    exact (Push_new x.q x.rng v h0 h1 hm hr).mono fun e w' g => x.to g (fun k hk => Foot.ofB hk) r1 ⟨rfl, r2⟩
/-- What Pop makes. -/
def PopP (sc l : List Int) (len : Nat) (sc' l' : List Int) (len' : Nat) : Prop := sc' = sc ∧ len' = len - 1 ∧ ∀ u, Mem l' len' u ↔ (Mem l len u ∧ u ≠ el l 0)
theorem St.pop (x : St w0 w b s h n sc l len) (h0 : 0 < len) : Calls Try.prog 9 #[.pointer (some ⟨b, 0, none⟩)] w (Acts (.tuple #[.int .i64 (el l 0), .bool true]) (PopP sc l len) w0 b s h n w) := by
  obtain ⟨r1, r2, r3⟩ := x.rt.pop h0
  have := Pop_some x.q x.rng h0
  rw [r2] at this
  exact this.mono fun e w' g => x.to g (fun k hk => Foot.ofB hk) r1 ⟨rfl, rfl, r3⟩
/-- What Bump makes. -/
def BumpP (sc l : List Int) (len v : Nat) (y : Int) (sc' l' : List Int) (len' : Nat) : Prop := sc' = bumped sc v y ∧ len' = len ∧ ∀ u, Mem l' len' u ↔ Mem l len u
theorem St.bump (x : St w0 w b s h n sc l len) (v : Nat) (y : Int) (hv : v < n) (hy0 : 0 ≤ y) (hy : el sc v + y ≤ 1152921504606846976) : Calls Try.prog 11 #[.pointer (some ⟨b, 0, none⟩), .int .i64 (v : Int), .int .i64 y] w (Acts (.int .i64 0) (BumpP sc l len v y) w0 b s h n w) := by
  have hvs : v < sc.length := by rw [x.q.rows.ls]; exact hv
  have hs := (x.rt.scs v hvs).1
  by_cases hm : Mem l len (v : Int)
  · obtain ⟨i, hi, he, hn⟩ := first_place hm
    obtain ⟨r1, r2⟩ := x.rt.bump hi he hvs hy0 hy
    exact (Bump_in x.q x.rng v i y hv hs hy0 hy hi he hn).mono fun e w' g => x.to g (fun k hk => hk) r1 ⟨rfl, rfl, r2.mem⟩
  · have r1 := x.rt.bump_out hm hvs hy0 hy
    exact (Bump_not x.q v y hv hs hy0 hy hm).mono fun e w' g => x.to g (fun k hk => hk) r1 ⟨rfl, rfl, fun u => Iff.rfl⟩
/-- What Halve makes. -/
def HalfP (sc l : List Int) (len : Nat) (sc' l' : List Int) (len' : Nat) : Prop := sc' = halved sc ∧ len' = len ∧ ∀ u, Mem l' len' u ↔ Mem l len u
theorem St.halve (x : St w0 w b s h n sc l len) : Calls Try.prog 13 #[.pointer (some ⟨b, 0, none⟩)] w (Acts (.tuple #[]) (HalfP sc l len) w0 b s h n w) := by
  obtain ⟨r1, r2⟩ := x.rt.halve
  exact (Halve_any x.q x.rng (fun v hv => x.rt.scs v (by rw [x.q.rows.ls]; exact hv))).mono fun e w' g => x.to g (fun k hk => hk) r1 ⟨rfl, rfl, r2.mem⟩
/-- A new one in a variable. -/
theorem St.start {w1 : World} (hb : Below w0.heap.size w0 w1) (hr : RwAt w1 s h n (List.replicate n 0) (ids n)) (hs : w0.heap.size ≤ s) (hh : w0.heap.size ≤ h) (hn : n ≤ 60) :
    St w0 (w1.alloc (.cells #[.slice (some ⟨s, 0, none⟩) n n, .slice (some ⟨h, 0, none⟩) n n] 26)) w1.heap.size s h n (List.replicate n 0) (ids n) n := by
  have hb1 := (Below.refl w1.heap.size w1).alloc (Nat.le_refl _) (.cells #[.slice (some ⟨s, 0, none⟩) n n, .slice (some ⟨h, 0, none⟩) n n] 26)
  exact ⟨⟨chain1 _ _, hr.kept hb1, Nat.le_refl _⟩, Rt.new n, ⟨hb.size, hs, hh⟩, hb.trans (hb1.mono hb.size), hn⟩
end
set_option maxRecDepth 100000 in
set_option maxHeartbeats 2000000 in
theorem speaks_any (w : World) : Calls Try.prog 5 #[] w (GivesV (.bool true) w) := by
  have HN := Lib.hid (New_any w 3 3 (by omega) (by decide))
  go_enter Try.func5, Try.ntmps5
  go_wp2_with fail
  refine HN.out.mono ?_
  rintro e w1 ⟨s, h, rfl, hb, hr, hs, hh⟩
  have st := St.start hb hr hs hh (by omega)
  have HB := Lib.hid (st.bump 2 1 (by omega) (by omega) (by rw [el_zeros]; omega))
  have HST := Lib.hid st
  unfold qV
  clear hb hr hs hh st HN
  go_wp2_with fail
  refine HB.out.mono ?_
  rintro e w2 ⟨rfl, sc, l, len, st, _, hP⟩
  obtain ⟨rfl, rfl, hm⟩ := hP
  have he : el l 0 = 2 := by
    have hsc : ∀ v : Nat, el (bumped (List.replicate 3 0) 2 1) v = if v = 2 then 1 else 0 := fun v => by
      unfold bumped
      rw [el_set (by simp), el_zeros, el_zeros]
      rfl
    have h2 : Mem l 3 2 := (hm 2).2 ((mem_ids 3 2).2 (by omega))
    obtain ⟨i, hi, hv⟩ := h2
    by_cases c : i = 0
    · rw [← hv, c]
    · have hh := st.rt.hp.root i hi (by omega)
      rw [hv, ahead_iff] at hh
      unfold sco at hh
      have r0 := st.rng 0 (by omega)
      rw [hsc, hsc] at hh
      split at hh <;> simp at hh <;> omega
  have HP := st.pop (by omega)
  rw [he] at HP
  have HPP := Lib.hid HP
  have HM := Lib.hid hm
  have HE := Lib.hid he
  clear hm he HP st HB HST
  go_wp2_with fail
  refine HPP.out.mono ?_
  rintro e w3 ⟨rfl, sc, l', len, st, _, hP⟩
  obtain ⟨rfl, rfl, hm⟩ := hP
  have HS := Lib.hid st
  have hno : ¬ Mem l' (3 - 1) 2 := fun x => ((hm 2).1 x).2 HE.out.symm
  have hyes : Mem l' (3 - 1) 0 := (hm 0).2 ⟨(HM.out 0).2 ((mem_ids 3 0).2 (by omega)), by rw [HE.out]; omega⟩
  have H1 := Lib.hid (Has_no st.q.rows st.q.le 2 hno)
  have H2 := Lib.hid (fun W (x : Below w3.heap.size w3 W) => Has_yes (st.kept x).q.rows st.q.le 0 hyes)
  have HC := Lib.hid (fun W (x : Below w3.heap.size w3 W) => (st.kept x).q.reads)
  obtain ⟨c0, c1⟩ := st.q.reads
  unfold qV at *
  clear hm HPP st hno hyes
  go_wp2_with fail
  refine H1.out.mono ?_
  rintro e w4 ⟨rfl, hb⟩
  have HB := Lib.hid hb
  obtain ⟨d0, d1⟩ := HC.out _ hb
  clear hb H1 c0 c1
  go_wp2_with fail
  refine (H2.out _ HB.out).mono ?_
  rintro e w5 ⟨rfl, hb⟩
  have HB2 := Lib.hid (HB.out.trans (hb.mono HB.out.size))
  clear hb H2
  go_wp2_with fail
  go_ret
  exact GivesV.mk' rfl (HS.out.below.trans (HB2.out.mono HS.out.below.size))
end Go.Proofs.Ytkepengljbeipaa
