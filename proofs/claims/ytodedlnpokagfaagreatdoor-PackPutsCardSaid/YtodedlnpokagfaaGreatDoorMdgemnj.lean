/- By program out of: PkPut04, PkPut5, PkPure, PkRef4, PkRef5, PkRef6, PkPr. -/
import Derived.Test.YtodedlnpokagfaaGreatDoorMmffflf
import Derived.Test.YtodedlnpokagfaaGreatDoorMejeoaf
import Derived.Test.YtodedlnpokagfaaGreatDoorMnmcofh
import Derived.Test.YtodedlnpokagfaaGreatDoorMcdobkk
/-
  law04.put: a thing is put, into both.
-/
set_option linter.unusedVariables false
set_option linter.unusedSimpArgs false
namespace Go.Proofs.YtodedlnpokagfaaGreatDoor
open Go.RowKit Rep

/-- A call puts a thing, into both. -/
def PutT (w0 : World) (o : Nat) (bs os : List Nat) (e : Ending) (w' : World) : Prop := ∃ S a' c', e = .returned (.slice a' os.length c') ∧ Hid (PSt w0 w' o S bs a' c' os)
/-- The thing's box stays. -/
theorem box_out {W0 W : World} {S : Nat → Prop} {r : Nat} {cs : Array Value} {T : TypeId} (h : W0.heap[r]? = some (.cells cs T (0, 0))) (hc : Chg S W0 W) (hn : ¬ S r) : W.heap[r]? = some (.cells cs T (0, 0)) := (hc.block _ (Array.getElem?_eq_some_iff.1 h).1 hn).trans h

set_option maxRecDepth 100000 in
set_option maxHeartbeats 4000000 in
theorem put_k0 {w0 w : World} {o c : Nat} {S : Nat → Prop} {bs os : List Nat} {a : Option Addr} {nn : Int} {ba xa xb ua ub la : Option Addr} {bc xc xe uc ue lc : Nat} {bl xl xk ul uk ls : List Nat} {xs us : Bool} (h : PSt w0 w o S bs a c os) (ht : HandT w0 ⟨0, nn, ba, bc, bl, ⟨xs, xa, xc, xl, xb, xe, xk, us, ua, uc, ul, ub, ue, uk⟩, la, lc, ls⟩)
    (hb : bl.length ≤ 300) (h1 : xl.length ≤ 1000) (h2 : xk.length ≤ 1000) (h3 : ul.length ≤ 1000) (h4 : uk.length ≤ 1000) (hl : bs.length ≤ 60000) (hlo : os.length ≤ 60000) :
    Calls Tryz.prog 7 #[.pointer (some ⟨o, 0, none⟩), .slice a os.length c, .agg #[.int .i64 0, .int .i64 nn, .slice ba bl.length bc, .bool xs, .slice xa xl.length xc, .slice xb xk.length xe, .bool us, .slice ua ul.length uc, .slice ub uk.length ue, .slice la ls.length lc]] w (PutT w0 o (bs ++ Pk.encI nn) (os ++ Pk.encI nn)) := by
  obtain ⟨W0, hW0⟩ : ∃ W0, W0 = w.alloc (.cells #[.int .i64 0, .int .i64 nn, .slice ba bl.length bc, .bool xs, .slice xa xl.length xc, .slice xb xk.length xe, .bool us, .slice ua ul.length uc, .slice ub uk.length ue, .slice la ls.length lc] 40) := ⟨_, rfl⟩
  have hB0 : Below w.heap.size w W0 := by rw [hW0]; exact (Below.refl _ _).alloc (Nat.le_refl _) _
  have hb0 : W0.heap[w.heap.size]? = some (.cells #[.int .i64 0, .int .i64 nn, .slice ba bl.length bc, .bool xs, .slice xa xl.length xc, .slice xb xk.length xe, .bool us, .slice ua ul.length uc, .slice ub uk.length ue, .slice la ls.length lc] 40 (0, 0)) := by rw [hW0]; exact heap_alloc_new w _
  have hnS : ¬ S w.heap.size := fun e => by have := h.lt _ e; omega
  have HP0 := Lib.hid (h.kept hB0)
  have HBX : Hid (∀ W, Chg S W0 W → W.heap[w.heap.size]? = some (.cells #[.int .i64 0, .int .i64 nn, .slice ba bl.length bc, .bool xs, .slice xa xl.length xc, .slice xb xk.length xe, .bool us, .slice ua ul.length uc, .slice ub uk.length ue, .slice la ls.length lc] 40 (0, 0))) := Lib.hid fun W hc => box_out hb0 hc hnS
  have HW0 := Lib.hid hW0
  have HT := Lib.hid ht
  obtain ⟨k0, k1, k2, k3, k4, k5, k6, k7, k8, k9⟩ := cells10 hb0
  have HC1 : Hid (Calls Tryz.prog 14 #[.pointer (some ⟨o, 0, none⟩), .int .i64 nn] W0 (PutsO o S (bs ++ Pk.encI nn) W0)) := Lib.hid (OInt_any HP0.out.out HP0.out.lt (by omega))
  have HC2 : Hid (∀ W, PSt w0 W o (Plus S W0 W) (bs ++ Pk.encI nn) a c os → Calls Tryz.prog 16 #[.slice a os.length c, .int .i64 nn] W (PutsR a (os ++ Pk.encI nn) W)) := Lib.hid fun W hh => RInt_any hh.own (by omega)
  clear h ht hW0 hB0 hb0 hnS
  go_enter Tryz.func7, Tryz.ntmps7
  go_wp2_with fail
  rw [← HW0.out]
  refine HC1.out.mono ?_
  intro e w1 HPP
  have HP1 := Lib.hid (HP0.out.puts HPP)
  obtain ⟨k0, k1, k2, k3, k4, k5, k6, k7, k8, k9⟩ := cells10 (HBX.out _ HPP.2.2.out)
  obtain ⟨rfl, _, _⟩ := HPP
  have HR := Lib.hid (HC2.out _ HP1.out)
  clear HC1 HC2 HP0 HBX
  go_wp2_with fail
  refine HR.out.mono ?_
  intro e w2 HRR
  obtain ⟨a', c', rfl, HP2⟩ := HP1.out.putsR HRR
  have HE : Hid (PutT w0 o (bs ++ Pk.encI nn) (os ++ Pk.encI nn) (.returned (.slice a' (os ++ Pk.encI nn).length c')) w2) := Lib.hid ⟨_, a', c', rfl, Lib.hid HP2⟩
  clear HRR HP2 HP1 HR
  generalize (os ++ Pk.encI nn).length = len at *
  go_wp2_with fail
  go_ret
  exact HE.out

set_option maxRecDepth 100000 in
set_option maxHeartbeats 4000000 in
theorem put_k1 {w0 w : World} {o c : Nat} {S : Nat → Prop} {bs os : List Nat} {a : Option Addr} {nn : Int} {ba xa xb ua ub la : Option Addr} {bc xc xe uc ue lc : Nat} {bl xl xk ul uk ls : List Nat} {xs us : Bool} (h : PSt w0 w o S bs a c os) (ht : HandT w0 ⟨1, nn, ba, bc, bl, ⟨xs, xa, xc, xl, xb, xe, xk, us, ua, uc, ul, ub, ue, uk⟩, la, lc, ls⟩)
    (hb : bl.length ≤ 300) (h1 : xl.length ≤ 1000) (h2 : xk.length ≤ 1000) (h3 : ul.length ≤ 1000) (h4 : uk.length ≤ 1000) (hl : bs.length ≤ 60000) (hlo : os.length ≤ 60000) :
    Calls Tryz.prog 7 #[.pointer (some ⟨o, 0, none⟩), .slice a os.length c, .agg #[.int .i64 1, .int .i64 nn, .slice ba bl.length bc, .bool xs, .slice xa xl.length xc, .slice xb xk.length xe, .bool us, .slice ua ul.length uc, .slice ub uk.length ue, .slice la ls.length lc]] w (PutT w0 o (bs ++ Pk.encF (flB nn)) (os ++ Pk.encF (flB nn))) := by
  obtain ⟨W0, hW0⟩ : ∃ W0, W0 = w.alloc (.cells #[.int .i64 1, .int .i64 nn, .slice ba bl.length bc, .bool xs, .slice xa xl.length xc, .slice xb xk.length xe, .bool us, .slice ua ul.length uc, .slice ub uk.length ue, .slice la ls.length lc] 40) := ⟨_, rfl⟩
  have hB0 : Below w.heap.size w W0 := by rw [hW0]; exact (Below.refl _ _).alloc (Nat.le_refl _) _
  have hb0 : W0.heap[w.heap.size]? = some (.cells #[.int .i64 1, .int .i64 nn, .slice ba bl.length bc, .bool xs, .slice xa xl.length xc, .slice xb xk.length xe, .bool us, .slice ua ul.length uc, .slice ub uk.length ue, .slice la ls.length lc] 40 (0, 0)) := by rw [hW0]; exact heap_alloc_new w _
  have hnS : ¬ S w.heap.size := fun e => by have := h.lt _ e; omega
  have HP0 := Lib.hid (h.kept hB0)
  have HBX : Hid (∀ W, Chg S W0 W → W.heap[w.heap.size]? = some (.cells #[.int .i64 1, .int .i64 nn, .slice ba bl.length bc, .bool xs, .slice xa xl.length xc, .slice xb xk.length xe, .bool us, .slice ua ul.length uc, .slice ub uk.length ue, .slice la ls.length lc] 40 (0, 0))) := Lib.hid fun W hc => box_out hb0 hc hnS
  have HW0 := Lib.hid hW0
  have HT := Lib.hid ht
  obtain ⟨k0, k1, k2, k3, k4, k5, k6, k7, k8, k9⟩ := cells10 hb0
  have HC1 : Hid (Calls Tryz.prog 17 #[.pointer (some ⟨o, 0, none⟩), .bool (flB nn)] W0 (PutsO o S (bs ++ Pk.encF (flB nn)) W0)) := Lib.hid (OFlag_any HP0.out.out (by omega))
  have HC2 : Hid (∀ W, PSt w0 W o (Plus S W0 W) (bs ++ Pk.encF (flB nn)) a c os → Calls Tryz.prog 18 #[.slice a os.length c, .bool (flB nn)] W (PutsR a (os ++ Pk.encF (flB nn)) W)) := Lib.hid fun W hh => RFlag_any hh.own (by omega)
  clear h ht hW0 hB0 hb0 hnS
  go_enter Tryz.func7, Tryz.ntmps7
  go_wp2_with fail
  rw [← HW0.out]
  refine HC1.out.mono ?_
  intro e w1 HPP
  have HP1 := Lib.hid (HP0.out.puts HPP)
  obtain ⟨k0, k1, k2, k3, k4, k5, k6, k7, k8, k9⟩ := cells10 (HBX.out _ HPP.2.2.out)
  obtain ⟨rfl, _, _⟩ := HPP
  have HR := Lib.hid (HC2.out _ HP1.out)
  clear HC1 HC2 HP0 HBX
  go_wp2_with fail
  refine HR.out.mono ?_
  intro e w2 HRR
  obtain ⟨a', c', rfl, HP2⟩ := HP1.out.putsR HRR
  have HE : Hid (PutT w0 o (bs ++ Pk.encF (flB nn)) (os ++ Pk.encF (flB nn)) (.returned (.slice a' (os ++ Pk.encF (flB nn)).length c')) w2) := Lib.hid ⟨_, a', c', rfl, Lib.hid HP2⟩
  clear HRR HP2 HP1 HR
  generalize (os ++ Pk.encF (flB nn)).length = len at *
  go_wp2_with fail
  go_ret
  exact HE.out

set_option maxRecDepth 100000 in
set_option maxHeartbeats 4000000 in
theorem put_k2 {w0 w : World} {o c : Nat} {S : Nat → Prop} {bs os : List Nat} {a : Option Addr} {nn : Int} {ba xa xb ua ub la : Option Addr} {bc xc xe uc ue lc : Nat} {bl xl xk ul uk ls : List Nat} {xs us : Bool} (h : PSt w0 w o S bs a c os) (ht : HandT w0 ⟨2, nn, ba, bc, bl, ⟨xs, xa, xc, xl, xb, xe, xk, us, ua, uc, ul, ub, ue, uk⟩, la, lc, ls⟩)
    (hb : bl.length ≤ 300) (h1 : xl.length ≤ 1000) (h2 : xk.length ≤ 1000) (h3 : ul.length ≤ 1000) (h4 : uk.length ≤ 1000) (hl : bs.length ≤ 60000) (hlo : os.length ≤ 60000) :
    Calls Tryz.prog 7 #[.pointer (some ⟨o, 0, none⟩), .slice a os.length c, .agg #[.int .i64 2, .int .i64 nn, .slice ba bl.length bc, .bool xs, .slice xa xl.length xc, .slice xb xk.length xe, .bool us, .slice ua ul.length uc, .slice ub uk.length ue, .slice la ls.length lc]] w (PutT w0 o (bs ++ Pk.encB bl) (os ++ Pk.encB bl)) := by
  obtain ⟨W0, hW0⟩ : ∃ W0, W0 = w.alloc (.cells #[.int .i64 2, .int .i64 nn, .slice ba bl.length bc, .bool xs, .slice xa xl.length xc, .slice xb xk.length xe, .bool us, .slice ua ul.length uc, .slice ub uk.length ue, .slice la ls.length lc] 40) := ⟨_, rfl⟩
  have hB0 : Below w.heap.size w W0 := by rw [hW0]; exact (Below.refl _ _).alloc (Nat.le_refl _) _
  have hb0 : W0.heap[w.heap.size]? = some (.cells #[.int .i64 2, .int .i64 nn, .slice ba bl.length bc, .bool xs, .slice xa xl.length xc, .slice xb xk.length xe, .bool us, .slice ua ul.length uc, .slice ub uk.length ue, .slice la ls.length lc] 40 (0, 0)) := by rw [hW0]; exact heap_alloc_new w _
  have hnS : ¬ S w.heap.size := fun e => by have := h.lt _ e; omega
  have HP0 := Lib.hid (h.kept hB0)
  have HBX : Hid (∀ W, Chg S W0 W → W.heap[w.heap.size]? = some (.cells #[.int .i64 2, .int .i64 nn, .slice ba bl.length bc, .bool xs, .slice xa xl.length xc, .slice xb xk.length xe, .bool us, .slice ua ul.length uc, .slice ub uk.length ue, .slice la ls.length lc] 40 (0, 0))) := Lib.hid fun W hc => box_out hb0 hc hnS
  have HW0 := Lib.hid hW0
  have HT := Lib.hid ht
  obtain ⟨k0, k1, k2, k3, k4, k5, k6, k7, k8, k9⟩ := cells10 hb0
  have HC1 : Hid (Calls Tryz.prog 19 #[.pointer (some ⟨o, 0, none⟩), .slice ba bl.length bc] W0 (PutsO o S (bs ++ Pk.encB bl) W0)) := Lib.hid (OBytes_any HP0.out.out HP0.out.lt (HT.out.b.kept HP0.out.below) (HP0.out.far HT.out.b).1 (by omega))
  have HC2 : Hid (∀ W, PSt w0 W o (Plus S W0 W) (bs ++ Pk.encB bl) a c os → Calls Tryz.prog 20 #[.slice a os.length c, .slice ba bl.length bc] W (PutsR a (os ++ Pk.encB bl) W)) := Lib.hid fun W hh => RBytes_any hh.own (HT.out.b.kept hh.below) (hh.far HT.out.b).2 (by omega) HT.out.bc.1 (by have := HT.out.bc.2; unfold maxLen at this; dsimp only at this; omega)
  clear h ht hW0 hB0 hb0 hnS
  go_enter Tryz.func7, Tryz.ntmps7
  go_wp2_with fail
  rw [← HW0.out]
  refine HC1.out.mono ?_
  intro e w1 HPP
  have HP1 := Lib.hid (HP0.out.puts HPP)
  obtain ⟨k0, k1, k2, k3, k4, k5, k6, k7, k8, k9⟩ := cells10 (HBX.out _ HPP.2.2.out)
  obtain ⟨rfl, _, _⟩ := HPP
  have HR := Lib.hid (HC2.out _ HP1.out)
  clear HC1 HC2 HP0 HBX
  go_wp2_with fail
  refine HR.out.mono ?_
  intro e w2 HRR
  obtain ⟨a', c', rfl, HP2⟩ := HP1.out.putsR HRR
  have HE : Hid (PutT w0 o (bs ++ Pk.encB bl) (os ++ Pk.encB bl) (.returned (.slice a' (os ++ Pk.encB bl).length c')) w2) := Lib.hid ⟨_, a', c', rfl, Lib.hid HP2⟩
  clear HRR HP2 HP1 HR
  generalize (os ++ Pk.encB bl).length = len at *
  go_wp2_with fail
  go_ret
  exact HE.out

set_option maxRecDepth 100000 in
set_option maxHeartbeats 4000000 in
theorem put_k3 {w0 w : World} {o c : Nat} {S : Nat → Prop} {bs os : List Nat} {a : Option Addr} {nn : Int} {ba xa xb ua ub la : Option Addr} {bc xc xe uc ue lc : Nat} {bl xl xk ul uk ls : List Nat} {xs us : Bool} (h : PSt w0 w o S bs a c os) (ht : HandT w0 ⟨3, nn, ba, bc, bl, ⟨xs, xa, xc, xl, xb, xe, xk, us, ua, uc, ul, ub, ue, uk⟩, la, lc, ls⟩)
    (hb : bl.length ≤ 300) (h1 : xl.length ≤ 1000) (h2 : xk.length ≤ 1000) (h3 : ul.length ≤ 1000) (h4 : uk.length ≤ 1000) (hl : bs.length ≤ 60000) (hlo : os.length ≤ 60000) :
    Calls Tryz.prog 7 #[.pointer (some ⟨o, 0, none⟩), .slice a os.length c, .agg #[.int .i64 3, .int .i64 nn, .slice ba bl.length bc, .bool xs, .slice xa xl.length xc, .slice xb xk.length xe, .bool us, .slice ua ul.length uc, .slice ub uk.length ue, .slice la ls.length lc]] w (PutT w0 o (bs ++ Pk.encR xs xl xk) (os ++ Pk.encR xs xl xk)) := by
  obtain ⟨W0, hW0⟩ : ∃ W0, W0 = w.alloc (.cells #[.int .i64 3, .int .i64 nn, .slice ba bl.length bc, .bool xs, .slice xa xl.length xc, .slice xb xk.length xe, .bool us, .slice ua ul.length uc, .slice ub uk.length ue, .slice la ls.length lc] 40) := ⟨_, rfl⟩
  have hB0 : Below w.heap.size w W0 := by rw [hW0]; exact (Below.refl _ _).alloc (Nat.le_refl _) _
  have hb0 : W0.heap[w.heap.size]? = some (.cells #[.int .i64 3, .int .i64 nn, .slice ba bl.length bc, .bool xs, .slice xa xl.length xc, .slice xb xk.length xe, .bool us, .slice ua ul.length uc, .slice ub uk.length ue, .slice la ls.length lc] 40 (0, 0)) := by rw [hW0]; exact heap_alloc_new w _
  have hnS : ¬ S w.heap.size := fun e => by have := h.lt _ e; omega
  have HP0 := Lib.hid (h.kept hB0)
  have HBX : Hid (∀ W, Chg S W0 W → W.heap[w.heap.size]? = some (.cells #[.int .i64 3, .int .i64 nn, .slice ba bl.length bc, .bool xs, .slice xa xl.length xc, .slice xb xk.length xe, .bool us, .slice ua ul.length uc, .slice ub uk.length ue, .slice la ls.length lc] 40 (0, 0))) := Lib.hid fun W hc => box_out hb0 hc hnS
  have HW0 := Lib.hid hW0
  have HT := Lib.hid ht
  obtain ⟨k0, k1, k2, k3, k4, k5, k6, k7, k8, k9⟩ := cells10 hb0
  have HC1 : Hid (Calls Tryz.prog 21 #[.pointer (some ⟨o, 0, none⟩), .agg #[.bool xs, .slice xa xl.length xc, .slice xb xk.length xe]] W0 (PutsO o S (bs ++ Pk.encR xs xl xk) W0)) := Lib.hid (ORatio_any HP0.out.out HP0.out.lt (HP0.out.limbsP HT.out.x.a.num h1) (HP0.out.limbsP HT.out.x.a.den h2) (by omega))
  have HC2 : Hid (∀ W, PSt w0 W o (Plus S W0 W) (bs ++ Pk.encR xs xl xk) a c os → Calls Tryz.prog 22 #[.slice a os.length c, .agg #[.bool xs, .slice xa xl.length xc, .slice xb xk.length xe]] W (PutsR a (os ++ Pk.encR xs xl xk) W)) := Lib.hid fun W hh => RRatio_any hh.own (hh.limbsR HT.out.x.a.num h1) (hh.limbsR HT.out.x.a.den h2) (by omega)
  clear h ht hW0 hB0 hb0 hnS
  go_enter Tryz.func7, Tryz.ntmps7
  go_wp2_with fail
  rw [← HW0.out]
  refine HC1.out.mono ?_
  intro e w1 HPP
  have HP1 := Lib.hid (HP0.out.puts HPP)
  obtain ⟨k0, k1, k2, k3, k4, k5, k6, k7, k8, k9⟩ := cells10 (HBX.out _ HPP.2.2.out)
  obtain ⟨rfl, _, _⟩ := HPP
  have HR := Lib.hid (HC2.out _ HP1.out)
  clear HC1 HC2 HP0 HBX
  go_wp2_with fail
  refine HR.out.mono ?_
  intro e w2 HRR
  obtain ⟨a', c', rfl, HP2⟩ := HP1.out.putsR HRR
  have HE : Hid (PutT w0 o (bs ++ Pk.encR xs xl xk) (os ++ Pk.encR xs xl xk) (.returned (.slice a' (os ++ Pk.encR xs xl xk).length c')) w2) := Lib.hid ⟨_, a', c', rfl, Lib.hid HP2⟩
  clear HRR HP2 HP1 HR
  generalize (os ++ Pk.encR xs xl xk).length = len at *
  go_wp2_with fail
  go_ret
  exact HE.out

set_option maxRecDepth 100000 in
set_option maxHeartbeats 4000000 in
theorem put_k4 {w0 w : World} {o c : Nat} {S : Nat → Prop} {bs os : List Nat} {a : Option Addr} {nn : Int} {ba xa xb ua ub la : Option Addr} {bc xc xe uc ue lc : Nat} {bl xl xk ul uk ls : List Nat} {xs us : Bool} (h : PSt w0 w o S bs a c os) (ht : HandT w0 ⟨4, nn, ba, bc, bl, ⟨xs, xa, xc, xl, xb, xe, xk, us, ua, uc, ul, ub, ue, uk⟩, la, lc, ls⟩)
    (hb : bl.length ≤ 300) (h1 : xl.length ≤ 1000) (h2 : xk.length ≤ 1000) (h3 : ul.length ≤ 1000) (h4 : uk.length ≤ 1000) (hl : bs.length ≤ 60000) (hlo : os.length ≤ 60000) :
    Calls Tryz.prog 7 #[.pointer (some ⟨o, 0, none⟩), .slice a os.length c, .agg #[.int .i64 4, .int .i64 nn, .slice ba bl.length bc, .bool xs, .slice xa xl.length xc, .slice xb xk.length xe, .bool us, .slice ua ul.length uc, .slice ub uk.length ue, .slice la ls.length lc]] w (PutT w0 o (bs ++ (Pk.encR xs xl xk ++ Pk.encR us ul uk)) (os ++ (Pk.encR xs xl xk ++ Pk.encR us ul uk))) := by
  obtain ⟨W0, hW0⟩ : ∃ W0, W0 = w.alloc (.cells #[.int .i64 4, .int .i64 nn, .slice ba bl.length bc, .bool xs, .slice xa xl.length xc, .slice xb xk.length xe, .bool us, .slice ua ul.length uc, .slice ub uk.length ue, .slice la ls.length lc] 40) := ⟨_, rfl⟩
  have hB0 : Below w.heap.size w W0 := by rw [hW0]; exact (Below.refl _ _).alloc (Nat.le_refl _) _
  have hb0 : W0.heap[w.heap.size]? = some (.cells #[.int .i64 4, .int .i64 nn, .slice ba bl.length bc, .bool xs, .slice xa xl.length xc, .slice xb xk.length xe, .bool us, .slice ua ul.length uc, .slice ub uk.length ue, .slice la ls.length lc] 40 (0, 0)) := by rw [hW0]; exact heap_alloc_new w _
  have hnS : ¬ S w.heap.size := fun e => by have := h.lt _ e; omega
  have HP0 := Lib.hid (h.kept hB0)
  have HBX : Hid (∀ W, Chg S W0 W → W.heap[w.heap.size]? = some (.cells #[.int .i64 4, .int .i64 nn, .slice ba bl.length bc, .bool xs, .slice xa xl.length xc, .slice xb xk.length xe, .bool us, .slice ua ul.length uc, .slice ub uk.length ue, .slice la ls.length lc] 40 (0, 0))) := Lib.hid fun W hc => box_out hb0 hc hnS
  have HW0 := Lib.hid hW0
  have HT := Lib.hid ht
  obtain ⟨k0, k1, k2, k3, k4, k5, k6, k7, k8, k9⟩ := cells10 hb0
  have HC1 : Hid (Calls Tryz.prog 23 #[.pointer (some ⟨o, 0, none⟩), .agg #[.bool xs, .slice xa xl.length xc, .slice xb xk.length xe, .bool us, .slice ua ul.length uc, .slice ub uk.length ue]] W0 (PutsO o S (bs ++ (Pk.encR xs xl xk ++ Pk.encR us ul uk)) W0)) := Lib.hid (ODelta_any HP0.out.out HP0.out.lt (HP0.out.limbsP HT.out.x.a.num h1) (HP0.out.limbsP HT.out.x.a.den h2) (HP0.out.limbsP HT.out.x.b.num h3) (HP0.out.limbsP HT.out.x.b.den h4) (by omega))
  have HC2 : Hid (∀ W, PSt w0 W o (Plus S W0 W) (bs ++ (Pk.encR xs xl xk ++ Pk.encR us ul uk)) a c os → Calls Tryz.prog 24 #[.slice a os.length c, .agg #[.bool xs, .slice xa xl.length xc, .slice xb xk.length xe, .bool us, .slice ua ul.length uc, .slice ub uk.length ue]] W (PutsR a (os ++ (Pk.encR xs xl xk ++ Pk.encR us ul uk)) W)) := Lib.hid fun W hh => RDelta_any hh.own (hh.limbsR HT.out.x.a.num h1) (hh.limbsR HT.out.x.a.den h2) (hh.limbsR HT.out.x.b.num h3) (hh.limbsR HT.out.x.b.den h4) (by omega)
  clear h ht hW0 hB0 hb0 hnS
  go_enter Tryz.func7, Tryz.ntmps7
  go_wp2_with fail
  rw [← HW0.out]
  refine HC1.out.mono ?_
  intro e w1 HPP
  have HP1 := Lib.hid (HP0.out.puts HPP)
  obtain ⟨k0, k1, k2, k3, k4, k5, k6, k7, k8, k9⟩ := cells10 (HBX.out _ HPP.2.2.out)
  obtain ⟨rfl, _, _⟩ := HPP
  have HR := Lib.hid (HC2.out _ HP1.out)
  clear HC1 HC2 HP0 HBX
  go_wp2_with fail
  refine HR.out.mono ?_
  intro e w2 HRR
  obtain ⟨a', c', rfl, HP2⟩ := HP1.out.putsR HRR
  have HE : Hid (PutT w0 o (bs ++ (Pk.encR xs xl xk ++ Pk.encR us ul uk)) (os ++ (Pk.encR xs xl xk ++ Pk.encR us ul uk)) (.returned (.slice a' (os ++ (Pk.encR xs xl xk ++ Pk.encR us ul uk)).length c')) w2) := Lib.hid ⟨_, a', c', rfl, Lib.hid HP2⟩
  clear HRR HP2 HP1 HR
  generalize (os ++ (Pk.encR xs xl xk ++ Pk.encR us ul uk)).length = len at *
  go_wp2_with fail
  go_ret
  exact HE.out
end Go.Proofs.YtodedlnpokagfaaGreatDoor


/-
  law04.put: lists, and no kind; any thing.
-/
set_option linter.unusedVariables false
set_option linter.unusedSimpArgs false
namespace Go.Proofs.YtodedlnpokagfaaGreatDoor
open Go.RowKit Rep

set_option maxRecDepth 100000 in
set_option maxHeartbeats 4000000 in
theorem put_no {w0 w : World} {o c : Nat} {S : Nat → Prop} {bs os : List Nat} {a : Option Addr} {nn : Int} {ba xa xb ua ub la : Option Addr} {bc xc xe uc ue lc : Nat} {bl xl xk ul uk ls : List Nat} {xs us : Bool} {kd : Int} (h : PSt w0 w o S bs a c os) (hk : kd < 0 ∨ 5 < kd) :
    Calls Tryz.prog 7 #[.pointer (some ⟨o, 0, none⟩), .slice a os.length c, .agg #[.int .i64 kd, .int .i64 nn, .slice ba bl.length bc, .bool xs, .slice xa xl.length xc, .slice xb xk.length xe, .bool us, .slice ua ul.length uc, .slice ub uk.length ue, .slice la ls.length lc]] w (PutT w0 o bs os) := by
  obtain ⟨W0, hW0⟩ : ∃ W0, W0 = w.alloc (.cells #[.int .i64 kd, .int .i64 nn, .slice ba bl.length bc, .bool xs, .slice xa xl.length xc, .slice xb xk.length xe, .bool us, .slice ua ul.length uc, .slice ub uk.length ue, .slice la ls.length lc] 40) := ⟨_, rfl⟩
  have hB0 : Below w.heap.size w W0 := by rw [hW0]; exact (Below.refl _ _).alloc (Nat.le_refl _) _
  have hb0 : W0.heap[w.heap.size]? = some (.cells #[.int .i64 kd, .int .i64 nn, .slice ba bl.length bc, .bool xs, .slice xa xl.length xc, .slice xb xk.length xe, .bool us, .slice ua ul.length uc, .slice ub uk.length ue, .slice la ls.length lc] 40 (0, 0)) := by rw [hW0]; exact heap_alloc_new w _
  have hnS : ¬ S w.heap.size := fun e => by have := h.lt _ e; omega
  have HP0 := Lib.hid (h.kept hB0)
  have HW0 := Lib.hid hW0
  obtain ⟨k0, k1, k2, k3, k4, k5, k6, k7, k8, k9⟩ := cells10 hb0
  have e0 : (kd == 0) = false := by simp; omega
  have e1 : (kd == 1) = false := by simp; omega
  have e2 : (kd == 2) = false := by simp; omega
  have e3 : (kd == 3) = false := by simp; omega
  have e4 : (kd == 4) = false := by simp; omega
  have e5 : (kd == 5) = false := by simp; omega
  have HE : Hid (PutT w0 o bs os (.returned (.slice a os.length c)) W0) := Lib.hid ⟨_, a, c, rfl, HP0⟩
  generalize os.length = len at *
  clear h hW0 hB0 hb0 hnS hk HP0
  go_enter Tryz.func7, Tryz.ntmps7
  go_wp2_with fail
  rw [← HW0.out]
  go_wp2_with fail
  go_ret
  exact HE.out
set_option maxRecDepth 100000 in
set_option maxHeartbeats 8000000 in
theorem put_k5 {w0 w : World} {o c : Nat} {S : Nat → Prop} {bs os : List Nat} {a : Option Addr} {nn : Int} {ba xa xb ua ub la : Option Addr} {bc xc xe uc ue lc : Nat} {bl xl xk ul uk ls : List Nat} {xs us : Bool} (h : PSt w0 w o S bs a c os) (ht : HandT w0 ⟨5, nn, ba, bc, bl, ⟨xs, xa, xc, xl, xb, xe, xk, us, ua, uc, ul, ub, ue, uk⟩, la, lc, ls⟩)
    (hls : ls.length ≤ 60) (hl : bs.length ≤ 60000) (hlo : os.length ≤ 60000) :
    Calls Tryz.prog 7 #[.pointer (some ⟨o, 0, none⟩), .slice a os.length c, .agg #[.int .i64 5, .int .i64 nn, .slice ba bl.length bc, .bool xs, .slice xa xl.length xc, .slice xb xk.length xe, .bool us, .slice ua ul.length uc, .slice ub uk.length ue, .slice la ls.length lc]] w (PutT w0 o (bs ++ (Pk.encI ls.length ++ ls.flatMap (Pk.be 8))) (os ++ (Pk.encI ls.length ++ ls.flatMap (Pk.be 8)))) := by
  obtain ⟨W0, hW0⟩ : ∃ W0, W0 = w.alloc (.cells #[.int .i64 5, .int .i64 nn, .slice ba bl.length bc, .bool xs, .slice xa xl.length xc, .slice xb xk.length xe, .bool us, .slice ua ul.length uc, .slice ub uk.length ue, .slice la ls.length lc] 40) := ⟨_, rfl⟩
  have hB0 : Below w.heap.size w W0 := by rw [hW0]; exact (Below.refl _ _).alloc (Nat.le_refl _) _
  have hb0 : W0.heap[w.heap.size]? = some (.cells #[.int .i64 5, .int .i64 nn, .slice ba bl.length bc, .bool xs, .slice xa xl.length xc, .slice xb xk.length xe, .bool us, .slice ua ul.length uc, .slice ub uk.length ue, .slice la ls.length lc] 40 (0, 0)) := by rw [hW0]; exact heap_alloc_new w _
  have hnS : ¬ S w.heap.size := fun e => by have := h.lt _ e; omega
  have HP0 := Lib.hid (h.kept hB0)
  have HBX : Hid (∀ W, Chg S W0 W → W.heap[w.heap.size]? = some (.cells #[.int .i64 5, .int .i64 nn, .slice ba bl.length bc, .bool xs, .slice xa xl.length xc, .slice xb xk.length xe, .bool us, .slice ua ul.length uc, .slice ub uk.length ue, .slice la ls.length lc] 40 (0, 0))) := Lib.hid fun W hc => box_out hb0 hc hnS
  have HW0 := Lib.hid hW0
  have HT := Lib.hid ht
  have hlc := ht.lc
  dsimp only at hlc
  unfold maxLen at hlc
  obtain ⟨hlc1, hlc2⟩ := hlc
  obtain ⟨k0, k1, k2, k3, k4, k5, k6, k7, k8, k9⟩ := cells10 hb0
  have HC1 : Hid (Calls Tryz.prog 25 #[.pointer (some ⟨o, 0, none⟩), .slice la ls.length lc, .func (.func 14) #[.pointer (some ⟨o, 0, none⟩)] #[]] W0 (PutsO o S (bs ++ (Pk.encI ls.length ++ ls.flatMap (Pk.be 8))) W0)) := Lib.hid (by
    have := PutI_any HP0.out.out HP0.out.lt (HT.out.l.kept HP0.out.below) (HP0.out.far HT.out.l).1 HT.out.lim HT.out.lc.1 HT.out.lc.2 (by show bs.length + 8 + 8 * ls.length ≤ 90000; omega)
    rw [List.append_assoc] at this
    exact this)
  obtain ⟨ebs, hebs⟩ : ∃ e, bs ++ (Pk.encI ls.length ++ ls.flatMap (Pk.be 8)) = e := ⟨_, rfl⟩
  rw [hebs] at HC1 ⊢
  have HLI : Hid (os.length + 8 + 8 * ls.length ≤ 100000) := Lib.hid (by omega)
  have HCI : Hid (∀ (W : World) (S' : Nat → Prop) (a' : Option Addr) (c' : Nat) (ps : List Nat) (m : Int), PSt w0 W o S' ebs a' c' ps → ps.length ≤ 1000000 → Calls Tryz.prog 16 #[.slice a' ps.length c', .int .i64 m] W (PutsR a' (ps ++ Pk.encI m) W)) := Lib.hid fun W S' a' c' ps m hh hp => RInt_any hh.own hp
  have HRD : Hid (∀ (W : World) (S' : Nat → Prop) (a' : Option Addr) (c' : Nat) (ps : List Nat), PSt w0 W o S' ebs a' c' ps → Reads W la (ls.map n64v)) := Lib.hid fun W S' a' c' ps hh => HT.out.l.kept hh.below
  have HLM := Lib.hid ht.lim
  have HNB : Hid (blk a ≠ some w.heap.size) := Lib.hid fun e => by have := h.own.blt _ e; omega
  clear h ht hW0 hB0 hb0 hnS hebs hl hlo
  go_enter Tryz.func7, Tryz.ntmps7
  go_wp2_with fail
  rw [← HW0.out]
  refine HC1.out.mono ?_
  intro e w1 HPP
  have HP1 := Lib.hid (HP0.out.puts HPP)
  have HBOX := Lib.hid (HBX.out _ HPP.2.2.out)
  obtain ⟨k0, k1, k2, k3, k4, k5, k6, k7, k8, k9⟩ := cells10 HBOX.out
  obtain ⟨rfl, _, _⟩ := HPP
  obtain ⟨os1, hos1⟩ : ∃ p, os ++ Pk.encI (ls.length : Int) = p := ⟨_, rfl⟩
  have hr1 := HCI.out _ _ _ _ _ (ls.length : Int) HP1.out (by have := HLI.out; omega)
  rw [hos1] at hr1
  have HR := Lib.hid hr1
  have HOS := Lib.hid hos1
  clear HC1 HP0 HBX hr1 hos1
  go_wp2_with fail
  refine HR.out.mono ?_
  intro e w2 HRR
  have hbk : w2.heap[w.heap.size]? = w1.heap[w.heap.size]? := by
    obtain ⟨_, _, _, _, hg, _⟩ := HRR
    exact hg.out.block _ (Array.getElem?_eq_some_iff.1 HBOX.out).1 (fun e => HNB.out e.symm)
  have hbox2 := hbk.trans HBOX.out
  obtain ⟨k0, k1, k2, k3, k4, k5, k6, k7, k8, k9⟩ := cells10 hbox2
  obtain ⟨a2, c2, rfl, HP2⟩ := HP1.out.putsR HRR
  have HS2 : Hid (∃ S', PSt w0 w2 o S' ebs a2 c2 (os1 ++ (ls.take 0).flatMap (Pk.be 8))) := Lib.hid ⟨_, by simpa using HP2⟩
  have HO1 : Hid (os1.length + 8 * ls.length ≤ 100000 ∧ os ++ (Pk.encI (ls.length : Int) ++ ls.flatMap (Pk.be 8)) = os1 ++ ls.flatMap (Pk.be 8)) := Lib.hid ⟨by rw [← HOS.out, List.length_append, Pk.encI_length]; have := HLI.out; omega, by rw [← HOS.out, List.append_assoc]⟩
  clear HRR HP2 HP1 HR hbk hbox2 HBOX HNB
  go_wp2_with fail
  go_loopw [1, 83] (fun (ov iv : Value) (wr : World) => ∃ (k : Nat) (a' : Option Addr) (c' : Nat) (ps : List Nat), k ≤ ls.length ∧ ov = .slice a' ps.length c' ∧ iv = .int .i64 (k : Int) ∧ Hid (ps = os1 ++ (ls.take k).flatMap (Pk.be 8) ∧ ∃ S', PSt w0 wr o S' ebs a' c' ps)) (fun _ iv _ => ls.length - (intOf iv).toNat)
  case atStart => exact ⟨0, a2, c2, os1, Nat.zero_le _, rfl, rfl, Lib.hid ⟨by simp, by have := HS2.out; simpa using this⟩⟩
  case round =>
    obtain ⟨k, a', c', ps, hk, rfl, rfl, HI⟩ := hrel
    clear HS2
    by_cases hlt : k < ls.length
    · obtain ⟨hps, S', hst⟩ := HI.out
      have hrd := HRD.out _ _ _ _ _ hst
      obtain ⟨g, off, rfl, hg, hcell⟩ := hrd.open' (by rw [List.length_map]; omega)
      have hck := hcell k _ (map_getElem? (xs := ls) hlt)
      unfold n64v at hck
      have hfl := flat_len 8 (ls.take k)
      rw [List.length_take] at hfl
      have hpl : ps.length ≤ 1000000 := by
        rw [hps, List.length_append, hfl]
        have := HO1.out.1
        have h3 : 8 * min k ls.length ≤ 8 * ls.length := Nat.mul_le_mul_left _ (by omega)
        omega
      have hxj : ls.getD k 0 < 18446744073709551616 := by
        rw [List.getD_eq_getElem?_getD, List.getElem?_eq_getElem hlt]; exact HLM.out _ (List.getElem_mem hlt)
      have hnx : ps ++ Pk.encI (Pk.iN (ls.getD k 0)) = os1 ++ (ls.take (k + 1)).flatMap (Pk.be 8) := by
        unfold Pk.encI
        rw [uN_iN hxj, flat_take hlt, hps, List.append_assoc]
      have hc := HCI.out _ _ _ _ _ (Pk.iN (ls.getD k 0)) hst hpl
      obtain ⟨pn, hpn⟩ : ∃ pn, ps ++ Pk.encI (Pk.iN (ls.getD k 0)) = pn := ⟨_, rfl⟩
      rw [hpn] at hc hnx
      have HC := Lib.hid hc
      have HST := Lib.hid (And.intro hst hnx)
      have hki : (k : Int) < (ls.length : Int) := by omega
      have hiw : wrap64 ((k : Int) + 1) = (k : Int) + 1 := IntWalk.wrap64_in _ (by omega)
      clear hps hst hrd hcell hfl hpl hxj hnx hc hpn HI
      generalize Pk.iN (ls.getD k 0) = x at *
      generalize ps.length = pl at *
      go_wp2_with fail
      refine HC.out.mono ?_
      intro e w5 HRR
      obtain ⟨a5, c5, rfl, HP5⟩ := HST.out.1.putsR HRR
      have HN : Hid (pn = os1 ++ (ls.take (k + 1)).flatMap (Pk.be 8) ∧ ∃ S', PSt w0 w5 o S' ebs a5 c5 pn) := Lib.hid ⟨HST.out.2, _, HP5⟩
      clear HRR HP5 HC HST
      go_wp2_with fail
      go_roundw
      case rel => exact ⟨k + 1, a5, c5, _, by omega, rfl, by go_num, Lib.hid ⟨HN.out.1, HN.out.2⟩⟩
      case measure => simp [intOf]; omega
    · obtain rfl : k = ls.length := by omega
      obtain ⟨hps, S', hst⟩ := HI.out
      rw [List.take_length] at hps
      have HE : Hid (PutT w0 o ebs (os ++ (Pk.encI (ls.length : Int) ++ ls.flatMap (Pk.be 8))) (.returned (.slice a' ps.length c')) wr) := Lib.hid (by rw [HO1.out.2, ← hps]; exact ⟨S', a', c', rfl, Lib.hid hst⟩)
      clear hps hst HI
      generalize ps.length = pl at *
      go_wp2_with fail
      go_ret
      exact HE.out
end Go.Proofs.YtodedlnpokagfaaGreatDoor

/-
  Layer 4, plainly: what is taken of what was put, and of a beginning of it.
-/
set_option linter.unusedVariables false
set_option linter.unusedSimpArgs false
namespace Go.Proofs.YtodedlnpokagfaaGreatDoor
namespace Pk

/-- f takes the bytes e off, and nothing of a beginning of them. -/
structure Enc (f : St → St) (e : List Nat) : Prop where
  all : ∀ r, f (some (e ++ r)) = some r
  short : ∀ p q, q ≠ [] → e = p ++ q → f (some p) = none
  none : f none = none
theorem Enc.comp {f g : St → St} {e e' : List Nat} (h : Enc f e) (h' : Enc g e') : Enc (fun s => g (f s)) (e ++ e') := by
  refine ⟨fun r => by rw [List.append_assoc]; show g (f (some (e ++ (e' ++ r)))) = _; rw [h.all, h'.all], fun p q hq hpq => ?_, by show g (f Option.none) = _; rw [h.none, h'.none]⟩
  show g (f (some p)) = _
  by_cases hl : p.length < e.length
  · have hp : p = e.take p.length := by
      have := congrArg (List.take p.length) hpq
      rw [List.take_append_of_le_length (by omega), List.take_append_of_le_length (Nat.le_refl _), List.take_length] at this
      exact this.symm
    rw [h.short p (e.drop p.length) (by intro hd; rw [List.drop_eq_nil_iff] at hd; omega) (by rw [hp, List.length_take, Nat.min_eq_left (by omega), List.take_append_drop]), h'.none]
  · have hp : p = e ++ p.drop e.length := by
      have := congrArg (List.take e.length) hpq
      rw [List.take_append_of_le_length (Nat.le_refl _), List.take_length, List.take_append_of_le_length (by omega)] at this
      have e1 : p = p.take e.length ++ p.drop e.length := (List.take_append_drop _ _).symm
      rw [← this] at e1
      exact e1
    have he : e' = p.drop e.length ++ q := by
      rw [hp, List.append_assoc] at hpq
      exact List.append_cancel_left hpq
    rw [hp, h.all]
    exact h'.short _ q hq he
theorem enc_id : Enc (fun s => s) [] := ⟨fun r => rfl, fun p q hq h => by
  have := congrArg List.length h
  simp at this
  exact absurd (List.length_eq_zero_iff.1 (by omega)) hq, rfl⟩
theorem enc_cut {e : List Nat} {k : Nat} (he : e.length = k) : Enc (cutN k) e := by
  subst he
  refine ⟨fun r => by simp [cutN], fun p q hq h => ?_, rfl⟩
  have hl := congrArg List.length h
  have hq' : 0 < q.length := List.length_pos_iff.2 hq
  rw [List.length_append] at hl
  unfold cutN
  dsimp only
  rw [if_neg (by omega)]
theorem cutV_app {e r : List Nat} {k : Nat} (he : e.length = k) : cutV k (some (e ++ r)) = e := by
  subst he
  simp [cutV]
theorem iN_enc {n : Int} (h1 : -9223372036854775808 ≤ n) (h2 : n ≤ 9223372036854775807) : iN (val (encI n)) = n := by
  unfold encI
  rw [val_be, Nat.mod_eq_of_lt (uN_lt n), iN_uN h1 h2]
theorem intV_enc {n : Int} (h1 : -9223372036854775808 ≤ n) (h2 : n ≤ 9223372036854775807) (r : List Nat) : intV (some (encI n ++ r)) = n := by
  unfold intV
  rw [cutV_app (encI_length n), iN_enc h1 h2]
theorem enc_int (n : Int) : Enc intN (encI n) := enc_cut (encI_length n)
theorem enc_flag (b : Bool) : Enc flagN (encF b) := by
  refine ⟨fun r => ?_, fun p q hq h => ?_, by simp [flagN, cutV, cutN, val]⟩
  · cases b <;> simp [flagN, encF, cutV, cutN, val]
  · have hl := congrArg List.length h
    have hq' : 0 < q.length := List.length_pos_iff.2 hq
    simp [encF] at hl
    obtain rfl : p = [] := List.length_eq_zero_iff.1 (by omega)
    simp [flagN, cutV, cutN, val]
theorem flagV_enc (b : Bool) (r : List Nat) : flagV (some (encF b ++ r)) = b := by cases b <;> simp [flagV, encF, cutV, val]
/-! ### Counts -/
theorem count_all {len : Nat} {k : Nat} {r : List Nat} (hk : 0 < k) (hl : len * k ≤ r.length) (hm : len ≤ 9223372036854775807) : countV (k : Int) (some (encI (len : Int) ++ r)) = len ∧ countN (k : Int) (some (encI (len : Int) ++ r)) = some r := by
  have hi := intV_enc (n := (len : Int)) (by omega) (by omega) r
  have hn : intN (some (encI (len : Int) ++ r)) = some r := (enc_int _).all r
  have hmax : (max (k : Int) 1).toNat = k := by omega
  have hdiv : len ≤ r.length / k := (Nat.le_div_iff_mul_le hk).2 hl
  have hok : countOK (k : Int) (some (encI (len : Int) ++ r)) = true := by
    unfold countOK
    rw [hi, hn, hmax]
    exact decide_eq_true ⟨by omega, by show (len : Int) ≤ ((r.length / k : Nat) : Int); exact_mod_cast hdiv⟩
  unfold countV countN
  rw [hok, if_pos rfl, if_pos rfl, hi, hn]
  exact ⟨by omega, rfl⟩
theorem count_few {len : Nat} {k : Nat} {r : List Nat} (hk : 0 < k) (hl : r.length < len * k) (hm : len ≤ 9223372036854775807) : countN (k : Int) (some (encI (len : Int) ++ r)) = none := by
  have hi := intV_enc (n := (len : Int)) (by omega) (by omega) r
  have hn : intN (some (encI (len : Int) ++ r)) = some r := (enc_int _).all r
  have hmax : (max (k : Int) 1).toNat = k := by omega
  have hdiv : r.length / k < len := (Nat.div_lt_iff_lt_mul hk).2 hl
  have hok : countOK (k : Int) (some (encI (len : Int) ++ r)) = false := by
    unfold countOK
    rw [hi, hn, hmax]
    refine decide_eq_false ?_
    rintro ⟨_, h⟩
    have h' : (len : Int) ≤ ((r.length / k : Nat) : Int) := h
    exact absurd (show len ≤ r.length / k by exact_mod_cast h') (Nat.not_le.2 hdiv)
  unfold countN
  rw [hok]
  rfl
theorem count_short {p : List Nat} (k : Int) (h : p.length < 8) : countN k (some p) = none := by
  unfold countN
  have : intN (some p) = none := by unfold intN cutN; dsimp only; rw [if_neg (by omega)]
  rw [this]
  split <;> rfl
theorem repN_none (k n : Nat) : repN k n none = none := by
  induction n with
  | zero => rfl
  | succ n ih => exact ih
theorem countN_none (k : Int) : countN k none = none := by
  unfold countN intN cutN
  split <;> rfl
/-- A count, and so many bytes. -/
theorem enc_counted {f : Nat → St → St} {len k : Nat} {body : List Nat} (hk : 0 < k) (hb : body.length = len * k) (hm : len ≤ 9223372036854775807) (hf : Enc (f len) body) (hn : ∀ n, f n none = none) :
    Enc (fun s => f (countV (k : Int) s) (countN (k : Int) s)) (encI (len : Int) ++ body) := by
  refine ⟨fun r => ?_, fun p q hq h => ?_, ?_⟩
  · show f (countV (k : Int) (some (encI (len : Int) ++ body ++ r))) (countN (k : Int) (some (encI (len : Int) ++ body ++ r))) = _
    rw [List.append_assoc]
    obtain ⟨h1, h2⟩ := count_all (len := len) (k := k) (r := body ++ r) hk (by rw [List.length_append]; omega) hm
    rw [h1, h2, hf.all]
  · show f (countV (k : Int) (some p)) (countN (k : Int) (some p)) = _
    have hl := congrArg List.length h
    have hq' : 0 < q.length := List.length_pos_iff.2 hq
    rw [List.length_append, List.length_append, encI_length, hb] at hl
    by_cases h8 : p.length < 8
    · rw [count_short _ h8, hn]
    · have hp : p = encI (len : Int) ++ p.drop 8 := by
        have := congrArg (List.take 8) h
        rw [List.take_append_of_le_length (by rw [encI_length]; omega), List.take_append_of_le_length (by omega), List.take_of_length_le (by rw [encI_length]; omega)] at this
        rw [this, List.take_append_drop]
      rw [hp, count_few hk (by rw [List.length_drop]; omega) hm, hn]
  · show f (countV (k : Int) none) (countN (k : Int) none) = _
    rw [countN_none, hn]
theorem enc_rep (k : Nat) : ∀ ms : List Nat, Enc (repN k ms.length) (ms.flatMap (be k))
  | [] => enc_id
  | m :: ms => by
    have := (enc_cut (e := be k m) (k := k) (be_length k m)).comp (enc_rep k ms)
    exact this
theorem rep_enc {k : Nat} : ∀ {ms : List Nat} (r : List Nat), (∀ m ∈ ms, m < 256 ^ k) → rep k ms.length (some (ms.flatMap (be k) ++ r)) = ms
  | [], r, _ => rfl
  | m :: ms, r, h => by
    have ih := rep_enc (k := k) (ms := ms) r (fun x hx => h x (by simp [hx]))
    simp only [List.flatMap_cons, List.length_cons, rep]
    rw [List.append_assoc, cutV_app (be_length k m), (enc_cut (e := be k m) (k := k) (be_length k m)).all, ih, val_be, Nat.mod_eq_of_lt (h m (by simp))]
theorem flat_length (k : Nat) (ms : List Nat) : (ms.flatMap (be k)).length = ms.length * k := by
  induction ms with
  | nil => simp
  | cons m ms ih => simp only [List.flatMap_cons, List.length_append, be_length, ih, List.length_cons, Nat.succ_mul]; omega
theorem enc_list {k : Nat} {ms : List Nat} (hk : 0 < k) (hm : ms.length ≤ 9223372036854775807) : Enc (listN k) (encI (ms.length : Int) ++ ms.flatMap (be k)) :=
  enc_counted (f := repN k) hk (flat_length k ms) hm (enc_rep k ms) (repN_none k)
theorem listV_enc {k : Nat} {ms : List Nat} (hk : 0 < k) (hm : ms.length ≤ 9223372036854775807) (hv : ∀ m ∈ ms, m < 256 ^ k) (r : List Nat) : listV k (some (encI (ms.length : Int) ++ ms.flatMap (be k) ++ r)) = ms := by
  unfold listV
  rw [List.append_assoc]
  obtain ⟨h1, h2⟩ := count_all (len := ms.length) (k := k) (r := ms.flatMap (be k) ++ r) hk (by rw [List.length_append, flat_length]; omega) hm
  rw [h1, h2, rep_enc r hv]
theorem enc_bytes {l : List Nat} (hm : l.length ≤ 9223372036854775807) : Enc bytesN (encB l) :=
  enc_counted (f := cutN) (k := 1) (by omega) (by omega) hm (enc_cut rfl) (fun _ => rfl)
theorem cutN_none (k : Nat) : cutN k none = none := rfl
/-! ### Ratios -/
section
variable {s t : Bool} {xs ds ys es : List Nat}
theorem enc_limbs (h : xs.length ≤ 9223372036854775807) : Enc (listN 4) (encL xs) := enc_list (by omega) h
theorem enc_rat3 (hx : xs.length ≤ 9223372036854775807) (hd : ds.length ≤ 9223372036854775807) : Enc (fun u => listN 4 (listN 4 (flagN u))) (encR s xs ds) := by
  unfold encR
  exact ((enc_flag s).comp (enc_limbs hx)).comp (enc_limbs hd)
theorem ratOK_enc (hx : xs.length ≤ 9223372036854775807) (hd : ds.length ≤ 9223372036854775807) (lx : ∀ m ∈ xs, m < 4294967296) (ld : ∀ m ∈ ds, m < 4294967296) (r : List Nat) :
    listV 4 (flagN (some (encR s xs ds ++ r))) = xs ∧ listV 4 (listN 4 (flagN (some (encR s xs ds ++ r)))) = ds ∧ ratOK (some (encR s xs ds ++ r)) = rightB s xs ds := by
  have e1 : flagN (some (encR s xs ds ++ r)) = some (encL xs ++ (encL ds ++ r)) := by
    unfold encR
    rw [List.append_assoc, List.append_assoc, (enc_flag s).all]
  have e2 : flagV (some (encR s xs ds ++ r)) = s := by
    unfold encR
    rw [List.append_assoc, List.append_assoc, flagV_enc]
  have e3 : listV 4 (some (encL xs ++ (encL ds ++ r))) = xs := listV_enc (k := 4) (by omega) hx lx (encL ds ++ r)
  have e4 : listN 4 (some (encL xs ++ (encL ds ++ r))) = some (encL ds ++ r) := (enc_limbs hx).all _
  have e5 : listV 4 (some (encL ds ++ r)) = ds := listV_enc (k := 4) (by omega) hd ld r
  have e6 : listN 4 (some (encL ds ++ r)) = some r := (enc_limbs hd).all _
  refine ⟨by rw [e1, e3], by rw [e1, e4, e5], ?_⟩
  unfold ratOK
  rw [e1, e2, e3, e4, e5, e6]
  rfl
theorem enc_rat (hx : xs.length ≤ 9223372036854775807) (hd : ds.length ≤ 9223372036854775807) (lx : ∀ m ∈ xs, m < 4294967296) (ld : ∀ m ∈ ds, m < 4294967296) (hr : rightB s xs ds = true) : Enc ratN (encR s xs ds) := by
  have h3 := enc_rat3 (s := s) hx hd
  refine ⟨fun r => ?_, fun p q hq h => ?_, ?_⟩
  · unfold ratN
    rw [(ratOK_enc hx hd lx ld r).2.2, hr, if_pos rfl]
    exact h3.all r
  · have := h3.short p q hq h
    unfold ratN ratOK
    rw [this]
    rfl
  · have := h3.none
    unfold ratN ratOK
    rw [this]
    rfl
end
/-! ### Things -/
def thN (kd n : Int) (s : St) : St :=
  if kd = 0 then intN s else if kd = 1 then flagN s else if kd = 2 then bytesN s else if kd = 3 then ratN s else if kd = 4 then ratN (ratN s) else if kd = 5 then listN 8 s else countN n s
theorem thN_none (kd n : Int) : thN kd n none = none := by
  have hl : ∀ k, listN k none = none := fun k => by unfold listN; rw [countN_none, repN_none]
  have hr : ratN none = none := by
    have h3 := (enc_rat3 (s := false) (xs := []) (ds := []) (by simp) (by simp)).none
    unfold ratN ratOK
    rw [h3]
    rfl
  unfold thN
  repeat' split
  · rfl
  · simp [flagN, cutV, cutN, val]
  · unfold bytesN; rw [countN_none]; rfl
  · exact hr
  · rw [hr, hr]
  · exact hl 8
  · exact countN_none n
end Pk
end Go.Proofs.YtodedlnpokagfaaGreatDoor

/-
  Layer 4: the document's In: limbs.
-/
set_option linter.unusedVariables false
set_option linter.unusedSimpArgs false
namespace Go.Proofs.YtodedlnpokagfaaGreatDoor
open Go.RowKit Rep

theorem xcountN_byt {m : Int} {s : Pk.St} (h : ∀ r, s = some r → Pk.Byt r) : ∀ r, Pk.countN m s = some r → Pk.Byt r := countN_byt h
theorem cut_four {s : Pk.St} (h : 4 ≤ Pk.left s) (hb : ∀ r, s = some r → Pk.Byt r) : ∃ b0 b1 b2 b3 : Nat, Pk.cutV 4 s = [b0, b1, b2, b3] ∧ b0 < 256 ∧ b1 < 256 ∧ b2 < 256 ∧ b3 < 256 := by
  rcases s with _ | r
  · simp [Pk.left] at h
  · have h' : 4 ≤ r.length := h
    have hr := hb r rfl
    rcases r with _ | ⟨b0, _ | ⟨b1, _ | ⟨b2, _ | ⟨b3, r⟩⟩⟩⟩ <;> simp at h'
    refine ⟨b0, b1, b2, b3, by simp [Pk.cutV], hr _ (by simp), hr _ (by simp), hr _ (by simp), hr _ (by simp)⟩
theorem val_four (b0 b1 b2 b3 : Nat) : Pk.val [b0, b1, b2, b3] = b0 * 16777216 + b1 * 65536 + b2 * 256 + b3 := by
  simp [Pk.val]; omega

/-- Behind j rounds, the document's. -/
structure XkAt (w : World) (x : Nat) (s : Pk.St) (j : Nat) (a : Option Addr) (c : Nat) (wr : World) : Prop where
  own : OwnR 81 u32v w.heap.size wr a c (Pk.rep 4 j s)
  inn : XSt wr x (Pk.repN 4 j s)
  grown : w.grownBy wr (some x)
  lt : x < w.heap.size
theorem XkAt.start {w : World} {x : Nat} {s : Pk.St} (h : XSt w x s) : XkAt w x s 0 (some ⟨w.heap.size, 0, none⟩) 0 (w.alloc (.cells #[] 81)) :=
  ⟨OwnR.start _ _ _, h.kept ((Below.refl _ _).alloc (Nat.le_refl _) _), grown_of_below ((Below.refl _ _).alloc (Nat.le_refl _) _) _, h.lt⟩
theorem XkAt.own1 {w : World} {x : Nat} {s : Pk.St} {j : Nat} {a : Option Addr} {c : Nat} {wr w2 : World} (h : XkAt w x s j a c wr) (G2 : wr.grownBy w2 (some x)) (d : Nat) :
    OwnR 81 u32v w.heap.size (w2.drew.alloc (.cells #[.int .u32 (d : Int)] 81)) a c (Pk.rep 4 j s) ∧ w.heap.size ≤ (w2.drew.alloc (.cells #[.int .u32 (d : Int)] 81)).heap.size ∧ Reads (w2.drew.alloc (.cells #[.int .u32 (d : Int)] 81)) (some ⟨w2.drew.heap.size, 0, none⟩) ([d].map u32v) :=
  ⟨((h.own.past h.lt G2).kept (below_drew w2)).kept ((Below.refl _ _).alloc (Nat.le_refl _) _), by have := h.grown.size; have := G2.size; have e : w2.drew.heap.size = w2.heap.size := rfl; simp; omega, (Row.new (E := 81) w2.drew #[.int .u32 (d : Int)]).reads0⟩
theorem XkAt.next {w : World} {x : Nat} {s : Pk.St} {j : Nat} {a : Option Addr} {c : Nat} {wr w2 w' : World} {a' : Option Addr} {c' d : Nat} (h : XkAt w x s j a c wr) (G1 : XSt w2 x (Pk.cutN 4 (Pk.repN 4 j s))) (G2 : wr.grownBy w2 (some x))
    {o : Obj} (hd : d = Pk.val (Pk.cutV 4 (Pk.repN 4 j s))) (hown : OwnR 81 u32v w.heap.size w' a' c' (Pk.rep 4 j s ++ [d])) (hgrow : (w2.drew.alloc o).grownBy w' (blk a)) : XkAt w x s (j + 1) a' c' w' := by
  have hb := h.own.blkB
  have hl := h.lt
  have hb2 : Below w2.heap.size w2 (w2.drew.alloc o) := (below_drew w2).trans ((Below.refl w2.drew.heap.size w2.drew).alloc (Nat.le_refl _) o)
  refine ⟨?_, ?_, ?_, hl⟩
  · rw [Pk.rep_snoc, ← hd]; exact hown
  · rw [Pk.repN_snoc]
    exact (G1.kept hb2).other hgrow (fun q e => by have := hb q e; omega)
  · exact grown_new (grownBy_trans_new (grownBy_trans_new h.grown G2) (grown_of_below hb2 _)) hgrow hb
theorem XkAt.done {w w0 : World} {x : Nat} {s : Pk.St} {n : Nat} {a : Option Addr} {c : Nat} {wr : World} (h : XkAt w x s n a c wr) (hg : w0.grownBy w (some x)) :
    XTakesL u32v x (Pk.rep 4 n s) (Pk.repN 4 n s) w0 (.returned (.slice a n c)) wr :=
  ⟨a, c, by rw [Pk.rep_length], Lib.hid h.own.reads, Lib.hid ⟨h.own.le, h.own.1⟩, Lib.hid (fun j e => by have := h.own.blkB j e; have := hg.size; omega), Lib.hid h.inn, Lib.hid (grownBy_trans_new hg h.grown)⟩
/-- What the limb is reckoned of, each number with a letter. -/
theorem four_steps {b0 b1 b2 b3 : Nat} (h0 : b0 < 256) (h1 : b1 < 256) (h2 : b2 < 256) (h3 : b3 < 256) : ∃ x0 x1 y1 x2 y2 y3 : Nat,
    (IntKind.u32.wrap (b0 : Int) = (b0 : Int) ∧ IntKind.u32.wrap (b1 : Int) = (b1 : Int) ∧ IntKind.u32.wrap (b2 : Int) = (b2 : Int) ∧ IntKind.u32.wrap (b3 : Int) = (b3 : Int)) ∧
    IntKind.u32.wrap ((b0 : Int) * 16777216) = (x0 : Int) ∧ IntKind.u32.wrap ((b1 : Int) * 65536) = (x1 : Int) ∧ IntKind.u32.wrap ((x0 : Int) + (x1 : Int)) = (y1 : Int) ∧ IntKind.u32.wrap ((b2 : Int) * 256) = (x2 : Int) ∧
    IntKind.u32.wrap ((y1 : Int) + (x2 : Int)) = (y2 : Int) ∧ IntKind.u32.wrap ((y2 : Int) + (b3 : Int)) = (y3 : Int) ∧ y3 = Pk.val [b0, b1, b2, b3] := by
  refine ⟨b0 * 16777216, b1 * 65536, b0 * 16777216 + b1 * 65536, b2 * 256, b0 * 16777216 + b1 * 65536 + b2 * 256, b0 * 16777216 + b1 * 65536 + b2 * 256 + b3, ⟨?_, ?_, ?_, ?_⟩, ?_, ?_, ?_, ?_, ?_, ?_, (val_four _ _ _ _).symm⟩
  all_goals
    rw [IntWalk.u32_in _ (by omega)]
    try omega

set_option maxRecDepth 100000 in
set_option maxHeartbeats 8000000 in
theorem Xlimbs_any {w : World} {x : Nat} {s : Pk.St} (h : XSt w x s) : Calls Tryz.prog 56 #[.pointer (some ⟨x, 0, none⟩)] w (XTakesL u32v x (Pk.listV 4 s) (Pk.listN 4 s) w) := by
  have HC := Lib.hid (XCount_any h (m := ((4 : Nat) : Int)) ⟨by omega, by omega⟩)
  have HR := Lib.hid (count_room (k := 4) (s := s) (by omega))
  have HBY := Lib.hid (xcountN_byt (m := ((4 : Nat) : Int)) (xst_byt h))
  unfold Pk.listV Pk.listN
  clear h
  generalize Pk.countV ((4 : Nat) : Int) s = n at *
  generalize Pk.countN ((4 : Nat) : Int) s = s1 at *
  go_enter Tryz.func56, Tryz.ntmps56
  go_wp2_with fail
  refine HC.out.mono ?_
  rintro e w1 ⟨rfl, G1, G2⟩
  clear HC
  have hn : n * 4 ≤ 140737488355328 := by have := xleft_le G1.out; have := HR.out.1; omega
  have HS := Lib.hid (XkAt.start G1.out)
  clear G1
  go_wp2_with fail
  go_loopw [4, 5] (fun lv iv wr => ∃ (j : Nat) (a : Option Addr) (c : Nat), j ≤ n ∧ lv = .slice a j c ∧ iv = .int .i64 j ∧ Hid (XkAt w1 x s1 j a c wr)) (fun _ iv _ => n - (intOf iv).toNat)
  case atStart => exact ⟨0, _, 0, Nat.zero_le _, rfl, rfl, HS⟩
  case round =>
    obtain ⟨j, a, c, hj, rfl, rfl, HJ⟩ := hrel
    clear HS
    by_cases hlt : j < n
    · have HM := Lib.hid (xtake_any HJ.out.inn (n := 4) (by omega))
      have HLEN : Hid ((Pk.rep 4 j s1).length = j) := Lib.hid (Pk.rep_length _ _ _)
      obtain ⟨b0, b1, b2, b3, hcut, l0, l1, l2, l3⟩ : ∃ b0 b1 b2 b3 : Nat, Pk.cutV 4 (Pk.repN 4 j s1) = [b0, b1, b2, b3] ∧ b0 < 256 ∧ b1 < 256 ∧ b2 < 256 ∧ b3 < 256 := by
        obtain ⟨r1, r2⟩ := HR.out
        have hm : (j + 1) * 4 ≤ n * 4 := Nat.mul_le_mul_right _ hlt
        have := (Pk.repN_some (k := 4) (n := j) (s := s1) (by omega) (r2 (by omega)))
        refine cut_four (by rw [this.2]; omega) (fun r e => ?_)
        exact xst_byt HJ.out.inn r e
      obtain ⟨x0, x1, y1, x2, y2, y3, ⟨v0, v1, v2, v3⟩, e0, e1, e2, e3, e4, e5, e6⟩ := four_steps l0 l1 l2 l3
      have HY : Hid (y3 = Pk.val (Pk.cutV 4 (Pk.repN 4 j s1))) := Lib.hid (by rw [hcut]; exact e6)
      rw [hcut] at HM
      clear hcut e6
      go_wp2_with fail
      refine HM.out.mono ?_
      rintro e w2 ⟨ab, cb, rfl, M0, M1, M2, G3, G4⟩
      clear HM
      obtain ⟨g, off, rfl, hg, hcell⟩ := M0.out.open' (by simp)
      have k0 := hcell 0 _ rfl
      have k1 := hcell 1 _ rfl
      have k2 := hcell 2 _ rfl
      have k3 := hcell 3 _ rfl
      unfold u8v at k0 k1 k2 k3
      rw [Nat.add_zero] at k0
      have hcb := M1.out.1
      simp only [List.length_cons, List.length_nil, Nat.zero_add, Nat.reduceAdd] at hcb
      have HNX : Hid (∀ (w' : World) (a' : Option Addr) (c' : Nat) (o : Obj), OwnR 81 u32v w1.heap.size w' a' c' (Pk.rep 4 j s1 ++ [y3]) → (w2.drew.alloc o).grownBy w' (blk a) → XkAt w1 x s1 (j + 1) a' c' w') := Lib.hid fun w' a' c' o h1 h2 => HJ.out.next G3.out G4.out HY.out h1 h2
      obtain ⟨ho1, hsz, hrd⟩ := HJ.out.own1 G4.out y3
      have HO1 := Lib.hid ho1
      have HSZ := Lib.hid hsz
      have HRD := Lib.hid hrd
      have HKP : Hid (∀ w', Below w2.drew.heap.size w2.drew w' → w'.cell? ⟨g, off, none⟩ = some (.int .u8 (b0 : Int)) ∧ w'.cell? ⟨g, off + 1, none⟩ = some (.int .u8 (b1 : Int)) ∧ w'.cell? ⟨g, off + 2, none⟩ = some (.int .u8 (b2 : Int)) ∧ w'.cell? ⟨g, off + 3, none⟩ = some (.int .u8 (b3 : Int))) := Lib.hid fun w' hb => by
        have hbb : Below w2.heap.size w2 w' := (below_drew w2).trans hb
        exact ⟨(hbb.cell hg).trans k0, (hbb.cell hg).trans k1, (hbb.cell hg).trans k2, (hbb.cell hg).trans k3⟩
      have HGB : Hid (∀ w', (w2.drew.alloc (.cells #[.int .u32 (y3 : Int)] 81)).grownBy w' (blk a) → w'.cell? ⟨g, off, none⟩ = some (.int .u8 (b0 : Int)) ∧ w'.cell? ⟨g, off + 1, none⟩ = some (.int .u8 (b1 : Int)) ∧ w'.cell? ⟨g, off + 2, none⟩ = some (.int .u8 (b2 : Int)) ∧ w'.cell? ⟨g, off + 3, none⟩ = some (.int .u8 (b3 : Int))) := Lib.hid fun w' hg' => by
        obtain ⟨t0, t1, t2, t3⟩ := HKP.out _ ((Below.refl w2.drew.heap.size w2.drew).alloc (Nat.le_refl _) (.cells #[.int .u32 (y3 : Int)] 81))
        have hgr : some g ≠ blk a := fun e => by
          have hx := M2.out g rfl
          have hy := HJ.out.own
          obtain ⟨_, ⟨rfl, _⟩ | ⟨g', rfl, _, hr⟩⟩ := hy
          · cases e
          · cases e
            have h2 := hr.lt
            have h3 : wr.heap.size ≤ g' := hx
            omega
        exact ⟨hg'.cell t0 hgr, hg'.cell t1 hgr, hg'.cell t2 hgr, hg'.cell t3 hgr⟩
      clear G3 G4 HJ ho1 hsz hrd hcell M0 M1 M2 HY
      go_wp2_with fail
      refine wp_region_held_drew (S := (fun w' => w'.cell? ⟨g, off, none⟩ = some (.int .u8 (b0 : Int)) ∧ w'.cell? ⟨g, off + 1, none⟩ = some (.int .u8 (b1 : Int)) ∧ w'.cell? ⟨g, off + 2, none⟩ = some (.int .u8 (b2 : Int)) ∧ w'.cell? ⟨g, off + 3, none⟩ = some (.int .u8 (b3 : Int)))) (by kernel_rfl) ?_ (fun hHeld => ?_)
      · exact HKP.out _ (Below.refl _ _)
      refine wpAnyH_take (i := 0) (v := ?_) (by rfl) (by kernel_rfl) (by kernel_rfl) (by kernel_rfl) (by exact fun _ _ _ h => h) (Or.inl ⟨by rfl, ?_⟩) hHeld ?_
      rotate_left 1
      · intro w' hSw
        go_simp
        try with_reducible rfl
      try simp only [Act.put, List.setIfInBounds_toArray, List.set_cons_zero, List.set_cons_succ, List.getElem_toArray, List.getElem_cons_zero, List.getElem_cons_succ]
      refine wpAnyH_take (i := 1) (v := ?_) (by rfl) (by kernel_rfl) (by kernel_rfl) (by kernel_rfl) (by exact fun _ _ _ h => h) (Or.inl ⟨by rfl, ?_⟩) hHeld ?_
      rotate_left 1
      · intro w' hSw
        go_simp
        try with_reducible rfl
      try simp only [Act.put, List.setIfInBounds_toArray, List.set_cons_zero, List.set_cons_succ, List.getElem_toArray, List.getElem_cons_zero, List.getElem_cons_succ]
      refine wpAnyH_take (i := 2) (v := ?_) (by rfl) (by kernel_rfl) (by kernel_rfl) (by kernel_rfl) (by exact fun _ _ _ h => h) (Or.inl ⟨by rfl, ?_⟩) hHeld ?_
      rotate_left 1
      · intro w' hSw
        go_simp
        try with_reducible rfl
      try simp only [Act.put, List.setIfInBounds_toArray, List.set_cons_zero, List.set_cons_succ, List.getElem_toArray, List.getElem_cons_zero, List.getElem_cons_succ]
      refine wpAnyH_take (i := 3) (v := ?_) (by rfl) (by kernel_rfl) (by kernel_rfl) (by kernel_rfl) (by exact fun _ _ _ h => h) (Or.inl ⟨by rfl, ?_⟩) hHeld ?_
      rotate_left 1
      · intro w' hSw
        go_simp
        try with_reducible rfl
      try simp only [Act.put, List.setIfInBounds_toArray, List.set_cons_zero, List.set_cons_succ, List.getElem_toArray, List.getElem_cons_zero, List.getElem_cons_succ]
      refine wpAnyH_take (i := 4) (v := ?_) (by rfl) (by kernel_rfl) (by kernel_rfl) (by kernel_rfl) (by exact fun _ _ _ h => h) (Or.inl ⟨by rfl, ?_⟩) hHeld ?_
      rotate_left 1
      · intro w' hSw
        go_simp
        try with_reducible rfl
      try simp only [Act.put, List.setIfInBounds_toArray, List.set_cons_zero, List.set_cons_succ, List.getElem_toArray, List.getElem_cons_zero, List.getElem_cons_succ]
      refine wpAnyH_take (i := 5) (v := ?_) (by rfl) (by kernel_rfl) (by kernel_rfl) (by kernel_rfl) (by exact fun _ _ _ h => h) (Or.inl ⟨by rfl, ?_⟩) hHeld ?_
      rotate_left 1
      · intro w' hSw
        go_simp
        try with_reducible rfl
      try simp only [Act.put, List.setIfInBounds_toArray, List.set_cons_zero, List.set_cons_succ, List.getElem_toArray, List.getElem_cons_zero, List.getElem_cons_succ]
      refine wpAnyH_take (i := 6) (v := ?_) (by rfl) (by kernel_rfl) (by kernel_rfl) (by kernel_rfl) (by exact fun _ _ _ h => h) (Or.inl ⟨by rfl, ?_⟩) hHeld ?_
      rotate_left 1
      · intro w' hSw
        go_simp
        try with_reducible rfl
      try simp only [Act.put, List.setIfInBounds_toArray, List.set_cons_zero, List.set_cons_succ, List.getElem_toArray, List.getElem_cons_zero, List.getElem_cons_succ]
      refine wpAnyH_take (i := 7) (v := ?_) (by rfl) (by kernel_rfl) (by kernel_rfl) (by kernel_rfl) (by exact fun _ _ _ h => h) (Or.inl ⟨by rfl, ?_⟩) hHeld ?_
      rotate_left 1
      · intro w' hSw
        go_simp
        try with_reducible rfl
      try simp only [Act.put, List.setIfInBounds_toArray, List.set_cons_zero, List.set_cons_succ, List.getElem_toArray, List.getElem_cons_zero, List.getElem_cons_succ]
      refine wpAnyH_take (i := 8) (v := ?_) (by rfl) (by kernel_rfl) (by kernel_rfl) (by kernel_rfl) (by exact fun _ _ _ h => h) (Or.inl ⟨by rfl, ?_⟩) hHeld ?_
      rotate_left 1
      · intro w' hSw
        go_simp
        try with_reducible rfl
      try simp only [Act.put, List.setIfInBounds_toArray, List.set_cons_zero, List.set_cons_succ, List.getElem_toArray, List.getElem_cons_zero, List.getElem_cons_succ]
      refine wpAnyH_take (i := 9) (v := ?_) (by rfl) (by kernel_rfl) (by kernel_rfl) (by kernel_rfl) (by exact fun _ _ _ h => h) (Or.inl ⟨by rfl, ?_⟩) hHeld ?_
      rotate_left 1
      · intro w' hSw
        go_simp
        try with_reducible rfl
      try simp only [Act.put, List.setIfInBounds_toArray, List.set_cons_zero, List.set_cons_succ, List.getElem_toArray, List.getElem_cons_zero, List.getElem_cons_succ]
      refine wpAnyH_take (i := 10) (v := ?_) (by rfl) (by kernel_rfl) (by kernel_rfl) (by kernel_rfl) (by exact fun _ _ _ h => h) (Or.inl ⟨by rfl, ?_⟩) hHeld ?_
      rotate_left 1
      · intro w' hSw
        go_simp
        try with_reducible rfl
      try simp only [Act.put, List.setIfInBounds_toArray, List.set_cons_zero, List.set_cons_succ, List.getElem_toArray, List.getElem_cons_zero, List.getElem_cons_succ]
      refine wpAnyH_take (i := 11) (v := ?_) (by rfl) (by kernel_rfl) (by kernel_rfl) (by kernel_rfl) (by exact fun _ _ _ h => h) (Or.inl ⟨by rfl, ?_⟩) hHeld ?_
      rotate_left 1
      · intro w' hSw
        go_simp
        try with_reducible rfl
      try simp only [Act.put, List.setIfInBounds_toArray, List.set_cons_zero, List.set_cons_succ, List.getElem_toArray, List.getElem_cons_zero, List.getElem_cons_succ]
      refine wpAnyH_take (i := 12) (v := ?_) (by rfl) (by kernel_rfl) (by kernel_rfl) (by kernel_rfl) (by exact fun _ _ _ h => h) (Or.inl ⟨by rfl, ?_⟩) hHeld ?_
      rotate_left 1
      · intro w' hSw
        go_simp
        try with_reducible rfl
      try simp only [Act.put, List.setIfInBounds_toArray, List.set_cons_zero, List.set_cons_succ, List.getElem_toArray, List.getElem_cons_zero, List.getElem_cons_succ]
      refine wpAnyH_take (i := 13) (v := ?_) (by rfl) (by kernel_rfl) (by kernel_rfl) (by kernel_rfl) (by exact fun _ _ _ h => h) (Or.inl ⟨by rfl, ?_⟩) hHeld ?_
      rotate_left 1
      · intro w' hSw
        go_simp
        try with_reducible rfl
      try simp only [Act.put, List.setIfInBounds_toArray, List.set_cons_zero, List.set_cons_succ, List.getElem_toArray, List.getElem_cons_zero, List.getElem_cons_succ]
      refine wpAnyH_take (i := 14) (v := ?_) (by rfl) (by kernel_rfl) (by kernel_rfl) (by kernel_rfl) (by exact fun _ _ _ h => h) (Or.inl ⟨by rfl, ?_⟩) hHeld ?_
      rotate_left 1
      · intro w' hSw
        go_simp
        try with_reducible rfl
      try simp only [Act.put, List.setIfInBounds_toArray, List.set_cons_zero, List.set_cons_succ, List.getElem_toArray, List.getElem_cons_zero, List.getElem_cons_succ]
      refine wpAnyH_take (i := 15) (v := ?_) (by rfl) (by kernel_rfl) (by kernel_rfl) (by kernel_rfl) (by exact fun _ _ _ h => h) (Or.inl ⟨by rfl, ?_⟩) hHeld ?_
      rotate_left 1
      · intro w' hSw
        go_simp
        try with_reducible rfl
      try simp only [Act.put, List.setIfInBounds_toArray, List.set_cons_zero, List.set_cons_succ, List.getElem_toArray, List.getElem_cons_zero, List.getElem_cons_succ]
      refine wpAnyH_take (i := 16) (v := ?_) (by rfl) (by kernel_rfl) (by kernel_rfl) (by kernel_rfl) (by exact fun _ _ _ h => h) (Or.inl ⟨by rfl, ?_⟩) hHeld ?_
      rotate_left 1
      · intro w' hSw
        go_simp
        try with_reducible rfl
      try simp only [Act.put, List.setIfInBounds_toArray, List.set_cons_zero, List.set_cons_succ, List.getElem_toArray, List.getElem_cons_zero, List.getElem_cons_succ]
      refine wpAnyH_take (i := 17) (v := ?_) (by rfl) (by kernel_rfl) (by kernel_rfl) (by kernel_rfl) (by exact fun _ _ _ h => h) (Or.inl ⟨by rfl, ?_⟩) hHeld ?_
      rotate_left 1
      · intro w' hSw
        go_simp
        try with_reducible rfl
      try simp only [Act.put, List.setIfInBounds_toArray, List.set_cons_zero, List.set_cons_succ, List.getElem_toArray, List.getElem_cons_zero, List.getElem_cons_succ]
      refine wpAnyH_take (i := 18) (v := ?_) (by rfl) (by kernel_rfl) (by kernel_rfl) (by kernel_rfl) (by exact fun _ _ _ h => h) (Or.inl ⟨by rfl, ?_⟩) hHeld ?_
      rotate_left 1
      · intro w' hSw
        go_simp
        try with_reducible rfl
      try simp only [Act.put, List.setIfInBounds_toArray, List.set_cons_zero, List.set_cons_succ, List.getElem_toArray, List.getElem_cons_zero, List.getElem_cons_succ]
      refine wpAnyH_take (i := 19) (v := ?_) (by rfl) (by kernel_rfl) (by kernel_rfl) (by kernel_rfl) (by exact fun _ _ _ h => h) (Or.inl ⟨by rfl, ?_⟩) hHeld ?_
      rotate_left 1
      · intro w' hSw
        go_simp
        try with_reducible rfl
      try simp only [Act.put, List.setIfInBounds_toArray, List.set_cons_zero, List.set_cons_succ, List.getElem_toArray, List.getElem_cons_zero, List.getElem_cons_succ]
      refine wpAnyH_take (i := 20) (v := ?_) (by rfl) (by kernel_rfl) (by kernel_rfl) (by kernel_rfl) (by exact fun _ _ _ h => h) (Or.inl ⟨by rfl, ?_⟩) hHeld ?_
      rotate_left 1
      · intro w' hSw
        go_simp
        try with_reducible rfl
      try simp only [Act.put, List.setIfInBounds_toArray, List.set_cons_zero, List.set_cons_succ, List.getElem_toArray, List.getElem_cons_zero, List.getElem_cons_succ]
      refine wpAnyH_take (i := 21) (v := ?_) (by rfl) (by kernel_rfl) (by kernel_rfl) (by kernel_rfl) (by exact fun _ _ _ h => h) (Or.inl ⟨by rfl, ?_⟩) hHeld ?_
      rotate_left 1
      · intro w' hSw
        go_simp
        try with_reducible rfl
      try simp only [Act.put, List.setIfInBounds_toArray, List.set_cons_zero, List.set_cons_succ, List.getElem_toArray, List.getElem_cons_zero, List.getElem_cons_succ]
      refine wpAnyH_take (i := 22) (v := ?_) (by rfl) (by kernel_rfl) (by kernel_rfl) (by kernel_rfl) (by exact fun _ _ _ h => h) (Or.inl ⟨by rfl, ?_⟩) hHeld ?_
      rotate_left 1
      · intro w' hSw
        go_simp
        try with_reducible rfl
      try simp only [Act.put, List.setIfInBounds_toArray, List.set_cons_zero, List.set_cons_succ, List.getElem_toArray, List.getElem_cons_zero, List.getElem_cons_succ]
      refine wpAnyH_ready (rs := [23]) (by kernel_rfl) (by simp) ?_
      refine AllReadyH.cons (by rfl) (fun K hK => ?_) AllReadyH.nil
      go_simp
      refine hK.out _ _ ?_ (fun hHeld => ?_)
      · exact HKP.out _ ((Below.refl w2.drew.heap.size w2.drew).alloc (Nat.le_refl _) _)
      clear hK K
      try simp only [Act.put, List.setIfInBounds_toArray, List.set_cons_zero, List.set_cons_succ, List.getElem_toArray, List.getElem_cons_zero, List.getElem_cons_succ]
      refine wpAnyH_ready (rs := [24]) (by kernel_rfl) (by simp) ?_
      refine AllReadyH.cons (by rfl) (fun K hK => ?_) AllReadyH.nil
      refine step_append_row rfl (.tmp 17) (.tmp 40) 31 rfl 81 (.int .u32 0) 4 Tryz.underlying31 info_u32 rfl u32v (fun _ => rfl) w1.heap.size a j c (Pk.rep 4 j s1) rfl HO1.out HLEN.out (some ⟨w2.drew.heap.size, 0, none⟩) 1 1 [y3] rfl rfl HRD.out (by unfold maxLen; omega) (by omega) HSZ.out ?_
      intro a' c' w6 hown hgrw hnew
      refine hK.out _ _ ?_ (fun hHeld => ?_)
      · exact HGB.out _ hgrw
      clear hK K
      try simp only [Act.put, List.setIfInBounds_toArray, List.set_cons_zero, List.set_cons_succ, List.getElem_toArray, List.getElem_cons_zero, List.getElem_cons_succ]
      refine wpAnyH_take (i := 25) (v := ?_) (by rfl) (by kernel_rfl) (by kernel_rfl) (by kernel_rfl) (by exact fun _ _ _ h => h) (Or.inl ⟨by rfl, ?_⟩) hHeld ?_
      rotate_left 1
      · intro w' hSw
        go_simp
        try with_reducible rfl
      try simp only [Act.put, List.setIfInBounds_toArray, List.set_cons_zero, List.set_cons_succ, List.getElem_toArray, List.getElem_cons_zero, List.getElem_cons_succ]
      refine wpAnyH_done (by kernel_rfl) ?_ _
      clear hHeld
      have HX := Lib.hid (HNX.out w6 a' c' _ hown hgrw)
      clear hown hgrw hnew HNX HO1 HSZ HRD HKP HGB k0 k1 k2 k3
      go_wp2_with fail
      go_roundw
      case rel => exact ⟨j + 1, a', c', by omega, rfl, by go_num, HX⟩
      case measure => simp [intOf]; omega
    · obtain rfl : j = n := by omega
      have HD := Lib.hid (HJ.out.done G2.out)
      clear HJ
      go_wp2_with fail
      go_ret
      exact HD.out
end Go.Proofs.YtodedlnpokagfaaGreatDoor


/-
  Layer 4: the document's In: Ratio.
-/
set_option linter.unusedVariables false
set_option linter.unusedSimpArgs false
namespace Go.Proofs.YtodedlnpokagfaaGreatDoor
open Go.RowKit Rep

/-- In.Ratio's own memory. -/
structure RxAt (w : World) (i : Nat) (s : Pk.St) (v0 v1 v2 : Value) (W : World) : Prop where
  b3 : W.heap[w.heap.size + 1]? = some (.cells #[v0, v1, v2] 35 (0, 0))
  b2 : W.heap[w.heap.size]? = some (.cells #[.bool false, .slice none 0 0, .slice none 0 0] 35 (0, 0))
  inn : XSt W i s
  grown : w.grownBy W (some i)
  lt : i < w.heap.size
section
variable {w W W' : World} {i : Nat} {s s' : Pk.St} {v0 v1 v2 : Value}
theorem RxAt.tab (h : RxAt w i s v0 v1 v2 W) (hT : Tab w) (hn : NoByte w i) : Tab W := hT.noByte hn h.grown
theorem RxAt.start (h : XSt w i s) : RxAt w i s (.bool false) (.slice none 0 0) (.slice none 0 0) ((w.alloc (.cells #[.bool false, .slice none 0 0, .slice none 0 0] 35)).alloc (.cells #[.bool false, .slice none 0 0, .slice none 0 0] 35)) := by
  have hb : Below w.heap.size w ((w.alloc (.cells #[.bool false, .slice none 0 0, .slice none 0 0] 35)).alloc (.cells #[.bool false, .slice none 0 0, .slice none 0 0] 35)) :=
    ((Below.refl _ _).alloc (Nat.le_refl _) _).alloc (by simp) _
  refine ⟨?_, ?_, h.kept hb, grown_of_below hb _, h.lt⟩
  · have := heap_alloc_new (w.alloc (.cells #[.bool false, .slice none 0 0, .slice none 0 0] 35)) (.cells #[.bool false, .slice none 0 0, .slice none 0 0] 35)
    rwa [World.size_alloc] at this
  · rw [Below.heap_alloc _ _ _ (by simp)]; exact heap_alloc_new w _
theorem RxAt.move (h : RxAt w i s v0 v1 v2 W) (G1 : XSt W' i s') (G2 : W.grownBy W' (some i)) : RxAt w i s' v0 v1 v2 W' := by
  have hl := h.lt
  refine ⟨(G2.block _ (Array.getElem?_eq_some_iff.1 h.b3).1 (by simp; omega)).trans h.b3, (G2.block _ (Array.getElem?_eq_some_iff.1 h.b2).1 (by simp; omega)).trans h.b2, G1, grownBy_trans_new h.grown G2, hl⟩
theorem RxAt.kept (h : RxAt w i s v0 v1 v2 W) (hb : Below W.heap.size W W') : RxAt w i s v0 v1 v2 W' := h.move (h.inn.kept hb) (grown_of_below hb _)
theorem RxAt.cells (h : RxAt w i s v0 v1 v2 W) : W.cell? ⟨w.heap.size + 1, 0, none⟩ = some v0 ∧ W.cell? ⟨w.heap.size + 1, 1, none⟩ = some v1 ∧ W.cell? ⟨w.heap.size + 1, 2, none⟩ = some v2 ∧ W.frozen? ⟨w.heap.size + 1, 0, none⟩ = false ∧ W.frozen? ⟨w.heap.size + 1, 1, none⟩ = false ∧ W.frozen? ⟨w.heap.size + 1, 2, none⟩ = false := cells3 h.b3
theorem RxAt.res (h : RxAt w i s v0 v1 v2 W) : W.cell? ⟨w.heap.size, 0, none⟩ = some (.bool false) ∧ W.cell? ⟨w.heap.size, 1, none⟩ = some (.slice none 0 0) ∧ W.cell? ⟨w.heap.size, 2, none⟩ = some (.slice none 0 0) ∧ W.frozen? ⟨w.heap.size, 0, none⟩ = false ∧ W.frozen? ⟨w.heap.size, 1, none⟩ = false ∧ W.frozen? ⟨w.heap.size, 2, none⟩ = false := cells3 h.b2
theorem RxAt.put (h : RxAt w i s v0 v1 v2 W) (k : Nat) (u : Value) {u0 u1 u2 : Value} (he : (#[v0, v1, v2] : Array Value).setIfInBounds k u = #[u0, u1, u2]) : RxAt w i s u0 u1 u2 (W.setCell ⟨w.heap.size + 1, k, none⟩ u) := by
  have hl := h.lt
  have hg : W.grownBy (W.setCell ⟨w.heap.size + 1, k, none⟩ u) (some (w.heap.size + 1)) := grownBy_set (grown_refl W _)
  have h3 := h.b3
  refine ⟨?_, (Below.heap_setCell _ _ _ _ (by simp)).trans h.b2, h.inn.newer (by omega) hg, grown_new h.grown hg (fun j e => by cases e; omega), hl⟩
  simp only [World.setCell, Array.getElem?_modify, h3]
  simp [he]
end
theorem RxAt.fin {w W : World} {i : Nat} {s : Pk.St} {v0 v1 v2 : Value} (h : RxAt w i s v0 v1 v2 W) (u0 u1 u2 : Value) :
    ((((W.setCell ⟨w.heap.size, 0, none⟩ u0).setCell ⟨w.heap.size, 1, none⟩ u1).setCell ⟨w.heap.size, 2, none⟩ u2).cell? ⟨w.heap.size, 0, none⟩ = some u0 ∧ (((W.setCell ⟨w.heap.size, 0, none⟩ u0).setCell ⟨w.heap.size, 1, none⟩ u1).setCell ⟨w.heap.size, 2, none⟩ u2).cell? ⟨w.heap.size, 1, none⟩ = some u1 ∧ (((W.setCell ⟨w.heap.size, 0, none⟩ u0).setCell ⟨w.heap.size, 1, none⟩ u1).setCell ⟨w.heap.size, 2, none⟩ u2).cell? ⟨w.heap.size, 2, none⟩ = some u2) ∧
    Hid (XSt (((W.setCell ⟨w.heap.size, 0, none⟩ u0).setCell ⟨w.heap.size, 1, none⟩ u1).setCell ⟨w.heap.size, 2, none⟩ u2) i s) ∧ Hid (w.grownBy (((W.setCell ⟨w.heap.size, 0, none⟩ u0).setCell ⟨w.heap.size, 1, none⟩ u1).setCell ⟨w.heap.size, 2, none⟩ u2) (some i)) ∧
    Hid (W.grownBy (((W.setCell ⟨w.heap.size, 0, none⟩ u0).setCell ⟨w.heap.size, 1, none⟩ u1).setCell ⟨w.heap.size, 2, none⟩ u2) (some w.heap.size)) := by
  have hl := h.lt
  have hg : W.grownBy (((W.setCell ⟨w.heap.size, 0, none⟩ u0).setCell ⟨w.heap.size, 1, none⟩ u1).setCell ⟨w.heap.size, 2, none⟩ u2) (some w.heap.size) := grownBy_set (grownBy_set (grownBy_set (grown_refl W _)))
  have h2 := h.b2
  have hh : (((W.setCell ⟨w.heap.size, 0, none⟩ u0).setCell ⟨w.heap.size, 1, none⟩ u1).setCell ⟨w.heap.size, 2, none⟩ u2).heap[w.heap.size]? = some (.cells #[u0, u1, u2] 35 (0, 0)) := by
    simp only [World.setCell, Array.getElem?_modify, h2]
    simp
  obtain ⟨a0, a1, a2, _⟩ := cells3 hh
  exact ⟨⟨a0, a1, a2⟩, Lib.hid (h.inn.newer hl hg), Lib.hid (grown_new h.grown hg (fun j e => by cases e; omega)), Lib.hid hg⟩
/-- A call on an In gives a ratio; the In is in this state then, and nothing else has changed. -/
def XTakesR (i : Nat) (b : Bool) (xs ds : List Nat) (s : Pk.St) (w : World) (e : Ending) (w' : World) : Prop :=
  ∃ a1 c1 a2 c2, e = .returned (.agg #[.bool b, .slice a1 xs.length c1, .slice a2 ds.length c2]) ∧ Hid (Lst w' (w.heap.size + 1) a1 c1 xs ∧ Lst w' (w.heap.size + 1) a2 c2 ds) ∧ Hid (XSt w' i s) ∧ Hid (w.grownBy w' (some i))
theorem xratio_none {w W : World} {i : Nat} {s : Pk.St} (h1 : XSt W i none) (h2 : w.grownBy W (some i)) (hok : Pk.ratOK s = false) :
    XTakesR i (Pk.ratS s) (Pk.ratX s) (Pk.ratD s) (Pk.ratN s) w (.returned (.agg #[.bool false, .slice none 0 0, .slice none 0 0])) W := by
  unfold Pk.ratS Pk.ratX Pk.ratD Pk.ratN
  simp only [hok, Bool.false_and, Bool.false_eq_true, if_false]
  exact ⟨none, 0, none, 0, rfl, Lib.hid ⟨.nil _ _, .nil _ _⟩, Lib.hid h1, Lib.hid h2⟩

set_option maxRecDepth 100000 in
set_option maxHeartbeats 4000000 in
theorem XRatio_any {w : World} {i : Nat} {s : Pk.St} (h : XSt w i s) (hT : Tab w) (hsm : Pk.ratSm s) :
    Calls Tryz.prog 35 #[.pointer (some ⟨i, 0, none⟩)] w (XTakesR i (Pk.ratS s) (Pk.ratX s) (Pk.ratD s) (Pk.ratN s) w) := by
  obtain ⟨W0, hW0⟩ : ∃ W0, W0 = ((w.alloc (.cells #[.bool false, .slice none 0 0, .slice none 0 0] 35)).alloc (.cells #[.bool false, .slice none 0 0, .slice none 0 0] 35)) := ⟨_, rfl⟩
  have HS := Lib.hid (RxAt.start h)
  rw [← hW0] at HS
  have HW0 := Lib.hid hW0
  have HTB := Lib.hid hT
  have HNB := Lib.hid h.no
  have HF := Lib.hid (XFlag_any HS.out.inn)
  have hil := h.lt
  obtain ⟨p0, p1, p2, q0, q1, q2⟩ := HS.out.cells
  have HSM : Hid ((Pk.listV 4 (Pk.flagN s)).length ≤ 10000 ∧ (Pk.listV 4 (Pk.listN 4 (Pk.flagN s))).length ≤ 10000) := Lib.hid hsm
  clear h hT hW0 hsm
  go_enter Tryz.func35, Tryz.ntmps35
  go_wp2_with fail
  rw [← HW0.out]
  refine HF.out.mono ?_
  rintro e w1 ⟨rfl, G1, G2⟩
  have HS1 := Lib.hid (HS.out.move G1.out G2.out)
  have HB1 := Lib.hid (xst_byt G1.out)
  obtain ⟨p0, p1, p2, q0, q1, q2⟩ := HS1.out.cells
  have HS2 := Lib.hid (HS1.out.put 0 (.bool (Pk.flagV s)) rfl)
  clear HF HS G1 G2 HS1
  obtain ⟨b, hb⟩ : ∃ b, b = Pk.flagV s := ⟨_, rfl⟩
  have HBV := Lib.hid hb
  rw [← hb] at HS2 ⊢
  clear hb
  have HL1 := Lib.hid (Xlimbs_any HS2.out.inn)
  obtain ⟨sf, hsf⟩ : ∃ sf, sf = Pk.flagN s := ⟨_, rfl⟩
  have HSF := Lib.hid hsf
  rw [← hsf] at HS2 HL1
  clear hsf
  go_wp2_with fail
  refine HL1.out.mono ?_
  rintro e w2 ⟨a1, c1, rfl, M1, M2, M3, G1, G2⟩
  have HS3 := Lib.hid (HS2.out.move G1.out G2.out)
  have HLM1 : Hid (Lim (Pk.listV 4 sf)) := Lib.hid (by rw [HSF.out]; exact listV_lim HB1.out)
  have HB2 := Lib.hid (xst_byt G1.out)
  have HA1 : Hid (Lst w2 (w.heap.size + 1) a1 c1 (Pk.listV 4 sf)) := Lib.hid ⟨M1.out, M2.out.1, M2.out.2, fun j e => by have := M3.out j e; have := (Array.getElem?_eq_some_iff.1 HS2.out.b3).1; omega⟩
  obtain ⟨xs, hxs⟩ : ∃ xs, xs = Pk.listV 4 sf := ⟨_, rfl⟩
  obtain ⟨s2, hs2⟩ : ∃ s2, s2 = Pk.listN 4 sf := ⟨_, rfl⟩
  have HXS := Lib.hid hxs
  have HSS := Lib.hid hs2
  rw [← hxs] at HA1 HLM1 ⊢
  rw [← hs2] at HS3 HB2
  clear hxs hs2 p0 p1 p2 q0 q1 q2
  obtain ⟨p0, p1, p2, q0, q1, q2⟩ := HS3.out.cells
  have HS4 := Lib.hid (HS3.out.put 1 (.slice a1 xs.length c1) rfl)
  have HA2 : Hid (Lst (w2.setCell ⟨w.heap.size + 1, 1, none⟩ (.slice a1 xs.length c1)) (w.heap.size + 1) a1 c1 xs) := Lib.hid (HA1.out.past (grownBy_set (grown_refl _ _)) (Nat.le_refl _))
  have HL2 := Lib.hid (Xlimbs_any HS4.out.inn)
  clear HL1 HS2 HS3 M1 M2 M3 G1 G2 HA1
  go_wp2_with fail
  refine HL2.out.mono ?_
  rintro e w3 ⟨a2, c2, rfl, M1, M2, M3, G1, G2⟩
  have HS5 := Lib.hid (HS4.out.move G1.out G2.out)
  have HLM2 : Hid (Lim (Pk.listV 4 s2)) := Lib.hid (listV_lim HB2.out)
  have HA3 : Hid (Lst w3 (w.heap.size + 1) a1 c1 xs) := Lib.hid (HA2.out.past G2.out (by have := HS4.out.lt; omega))
  have HD3 : Hid (Lst w3 (w.heap.size + 1) a2 c2 (Pk.listV 4 s2)) := Lib.hid ⟨M1.out, M2.out.1, M2.out.2, fun j e => by have := M3.out j e; have := (Array.getElem?_eq_some_iff.1 HS4.out.b3).1; omega⟩
  obtain ⟨ds, hds⟩ : ∃ ds, ds = Pk.listV 4 s2 := ⟨_, rfl⟩
  obtain ⟨s3, hs3⟩ : ∃ s3, s3 = Pk.listN 4 s2 := ⟨_, rfl⟩
  have HDS := Lib.hid hds
  have HS3' := Lib.hid hs3
  rw [← hds] at HD3 HLM2 ⊢
  rw [← hs3] at HS5
  clear hds hs3 p0 p1 p2 q0 q1 q2
  obtain ⟨p0, p1, p2, q0, q1, q2⟩ := HS5.out.cells
  obtain ⟨ai, ci, BI, atI, hI⟩ := HS5.out.inn
  obtain ⟨i0, i2, i1, j0, j2, j1⟩ := hI.cells
  have j3 := (Array.getElem?_eq_some_iff.1 hI.blk).1
  obtain ⟨r0, r1, r2, t0, t1, t2⟩ := HS5.out.res
  have HS6 := Lib.hid (HS5.out.put 2 (.slice a2 ds.length c2) rfl)
  have HA4 : Hid (Lst (w3.setCell ⟨w.heap.size + 1, 2, none⟩ (.slice a2 ds.length c2)) (w.heap.size + 1) a1 c1 xs) := Lib.hid (HA3.out.past (grownBy_set (grown_refl _ _)) (Nat.le_refl _))
  have HD4 : Hid (Lst (w3.setCell ⟨w.heap.size + 1, 2, none⟩ (.slice a2 ds.length c2)) (w.heap.size + 1) a2 c2 ds) := Lib.hid (HD3.out.past (grownBy_set (grown_refl _ _)) (Nat.le_refl _))
  clear HL2 HS4 HS5 M1 M2 M3 G1 G2 HA2 HA3 HD3 HB1 HB2
  have HOK : Hid (Pk.ratOK s = (s3.isSome && rightB b xs ds)) := Lib.hid (by unfold Pk.ratOK; rw [HS3'.out, HDS.out, HSS.out, HXS.out, HSF.out, HBV.out])
  have HP : Hid (Pk.ratS s = (Pk.ratOK s && b) ∧ Pk.ratX s = (if Pk.ratOK s then xs else []) ∧ Pk.ratD s = (if Pk.ratOK s then ds else []) ∧ Pk.ratN s = (if Pk.ratOK s then s3 else none)) := Lib.hid (by
    unfold Pk.ratS Pk.ratX Pk.ratD Pk.ratN
    rw [HS3'.out, HDS.out, HSS.out, HXS.out, HSF.out, HBV.out]
    exact ⟨rfl, rfl, rfl, rfl⟩)
  have HLE : Hid (xs.length ≤ 10000 ∧ ds.length ≤ 10000) := Lib.hid (by have h1 := HSM.out; rw [HXS.out, HDS.out, HSS.out, HSF.out]; exact h1)
  clear hI HSM HXS HSS HDS HS3' HSF HBV
  have HRT : Hid (Calls Tryz.prog 57 #[.agg #[.bool b, .slice a1 xs.length c1, .slice a2 ds.length c2]] (w3.setCell ⟨w.heap.size + 1, 2, none⟩ (.slice a2 ds.length c2)) (GivesB (rightB b xs ds) (w3.setCell ⟨w.heap.size + 1, 2, none⟩ (.slice a2 ds.length c2)))) := Lib.hid (RightR_any (s := b) (HA4.out.num HLM1.out HLE.out.1) (HD4.out.num HLM2.out HLE.out.2) HLE.out.1 HLE.out.2)
  cases hz : s3.isNone
  case true =>
    obtain rfl : s3 = none := by simpa using hz
    have HNO : Hid (Pk.ratOK s = false) := Lib.hid (by rw [HOK.out]; rfl)
    obtain ⟨aJ, cJ, BJ, atJ, hJ⟩ := HS6.out.inn
    have HS7 := Lib.hid (HS6.out.move hJ.wrong.1 hJ.wrong.2)
    clear hJ
    obtain ⟨r0, r1, r2, t0, t1, t2⟩ := HS7.out.res
    have HFI := Lib.hid (HS7.out.fin (.bool false) (.slice none 0 0) (.slice none 0 0))
    clear HS6 HS7
    rw [hz] at i1
    clear hz HRT HOK HP
    go_wp2_with fail
    obtain ⟨⟨r0, r1, r2⟩, k1, k2, _⟩ := HFI.out
    exact bodyPost_ret (v := .agg #[.bool false, .slice none 0 0, .slice none 0 0]) (by simp [results, Tryz.results35, go_sem, r0, r1, r2]) rfl (xratio_none k1.out k2.out HNO.out)
  case false =>
    rw [hz] at i1
    cases hr : rightB b xs ds
    case false =>
      have HNO : Hid (Pk.ratOK s = false) := Lib.hid (by rw [HOK.out, hr, Bool.and_false])
      rw [hr] at HRT
      clear hz hr HOK HP
      go_wp2_with fail
      refine HRT.out.mono ?_
      rintro e w6 ⟨rfl, hb6⟩
      have HS7 := Lib.hid (HS6.out.kept hb6)
      obtain ⟨aJ, cJ, BJ, atJ, hJ⟩ := HS7.out.inn
      obtain ⟨i0, i2, i1, j0, j2, j1⟩ := hJ.cells
      have HS8 := Lib.hid (HS7.out.move hJ.wrong.1 hJ.wrong.2)
      clear hJ
      obtain ⟨r0, r1, r2, t0, t1, t2⟩ := HS8.out.res
      have HFI := Lib.hid (HS8.out.fin (.bool false) (.slice none 0 0) (.slice none 0 0))
      clear HS7 HS8
      clear HRT HS6 hb6
      go_wp2_with fail
      obtain ⟨⟨r0, r1, r2⟩, k1, k2, _⟩ := HFI.out
      exact bodyPost_ret (v := .agg #[.bool false, .slice none 0 0, .slice none 0 0]) (by simp [results, Tryz.results35, go_sem, r0, r1, r2]) rfl (xratio_none k1.out k2.out HNO.out)
    case true =>
      have HYES : Hid (Pk.ratOK s = true) := Lib.hid (by rw [HOK.out, hr, Bool.and_true]; cases s3 with | none => simp at hz | some _ => rfl)
      rw [hr] at HRT
      clear hz hr HOK
      go_wp2_with fail
      refine HRT.out.mono ?_
      rintro e w6 ⟨rfl, hb6⟩
      have HS7 := Lib.hid (HS6.out.kept hb6)
      have HA7 := Lib.hid (HA4.out.kept hb6)
      have HD7 := Lib.hid (HD4.out.kept hb6)
      obtain ⟨p0, p1, p2, q0, q1, q2⟩ := HS7.out.cells
      obtain ⟨r0, r1, r2, t0, t1, t2⟩ := HS7.out.res
      have HFI := Lib.hid (HS7.out.fin (.bool b) (.slice a1 xs.length c1) (.slice a2 ds.length c2))
      clear HRT HS6 hb6 HA4 HD4 HS7
      go_wp2_with fail
      obtain ⟨⟨r0, r1, r2⟩, k1, k2, k3⟩ := HFI.out
      refine bodyPost_ret (v := .agg #[.bool b, .slice a1 xs.length c1, .slice a2 ds.length c2]) (by simp [results, Tryz.results35, go_sem, r0, r1, r2]) rfl ?_
      obtain ⟨e0, e1, e2, e3⟩ := HP.out
      rw [e0, e1, e2, e3, HYES.out]
      exact ⟨a1, c1, a2, c2, rfl, Lib.hid ⟨HA7.out.past k3.out (by omega), HD7.out.past k3.out (by omega)⟩, k1, k2⟩
end Go.Proofs.YtodedlnpokagfaaGreatDoor


/-
  Layer 4: the document's In: Delta.
-/
set_option linter.unusedVariables false
set_option linter.unusedSimpArgs false
namespace Go.Proofs.YtodedlnpokagfaaGreatDoor
open Go.RowKit Rep

/-- The document's In.Delta's own memory. -/
structure DxAt (w : World) (i : Nat) (s : Pk.St) (v0 v1 v2 v3 v4 v5 : Value) (W : World) : Prop where
  b3 : W.heap[w.heap.size + 1]? = some (.cells #[v0, v1, v2, v3, v4, v5] 37 (0, 0))
  b2 : W.heap[w.heap.size]? = some (.cells #[.bool false, .slice none 0 0, .slice none 0 0, .bool false, .slice none 0 0, .slice none 0 0] 37 (0, 0))
  inn : XSt W i s
  grown : w.grownBy W (some i)
  lt : i < w.heap.size
section
variable {w W W' : World} {i : Nat} {s s' : Pk.St} {v0 v1 v2 v3 v4 v5 : Value}
theorem DxAt.start (h : XSt w i s) : DxAt w i s (.bool false) (.slice none 0 0) (.slice none 0 0) (.bool false) (.slice none 0 0) (.slice none 0 0) ((w.alloc (.cells #[.bool false, .slice none 0 0, .slice none 0 0, .bool false, .slice none 0 0, .slice none 0 0] 37)).alloc (.cells #[.bool false, .slice none 0 0, .slice none 0 0, .bool false, .slice none 0 0, .slice none 0 0] 37)) := by
  have hb : Below w.heap.size w ((w.alloc (.cells #[.bool false, .slice none 0 0, .slice none 0 0, .bool false, .slice none 0 0, .slice none 0 0] 37)).alloc (.cells #[.bool false, .slice none 0 0, .slice none 0 0, .bool false, .slice none 0 0, .slice none 0 0] 37)) := ((Below.refl _ _).alloc (Nat.le_refl _) _).alloc (by simp) _
  refine ⟨?_, ?_, h.kept hb, grown_of_below hb _, h.lt⟩
  · have := heap_alloc_new (w.alloc (.cells #[.bool false, .slice none 0 0, .slice none 0 0, .bool false, .slice none 0 0, .slice none 0 0] 37)) (.cells #[.bool false, .slice none 0 0, .slice none 0 0, .bool false, .slice none 0 0, .slice none 0 0] 37)
    rwa [World.size_alloc] at this
  · rw [Below.heap_alloc _ _ _ (by simp)]; exact heap_alloc_new w _
theorem DxAt.move (h : DxAt w i s v0 v1 v2 v3 v4 v5 W) (G1 : XSt W' i s') (G2 : W.grownBy W' (some i)) : DxAt w i s' v0 v1 v2 v3 v4 v5 W' := by
  have hl := h.lt
  refine ⟨(G2.block _ (Array.getElem?_eq_some_iff.1 h.b3).1 (by simp; omega)).trans h.b3, (G2.block _ (Array.getElem?_eq_some_iff.1 h.b2).1 (by simp; omega)).trans h.b2, G1, grownBy_trans_new h.grown G2, hl⟩
theorem DxAt.put0 (h : DxAt w i s v0 v1 v2 v3 v4 v5 W) (u0 u1 u2 : Value) : DxAt w i s u0 u1 u2 v3 v4 v5 (((W.setCell ⟨w.heap.size + 1, 0, none⟩ u0).setCell ⟨w.heap.size + 1, 1, none⟩ u1).setCell ⟨w.heap.size + 1, 2, none⟩ u2) ∧ W.grownBy (((W.setCell ⟨w.heap.size + 1, 0, none⟩ u0).setCell ⟨w.heap.size + 1, 1, none⟩ u1).setCell ⟨w.heap.size + 1, 2, none⟩ u2) (some (w.heap.size + 1)) := by
  have hl := h.lt
  have hg : W.grownBy (((W.setCell ⟨w.heap.size + 1, 0, none⟩ u0).setCell ⟨w.heap.size + 1, 1, none⟩ u1).setCell ⟨w.heap.size + 1, 2, none⟩ u2) (some (w.heap.size + 1)) := grownBy_set (grownBy_set (grownBy_set (grown_refl W _)))
  have h3 := h.b3
  refine ⟨⟨?_, (hg.block _ (Array.getElem?_eq_some_iff.1 h.b2).1 (by simp)).trans h.b2, h.inn.newer (by omega) hg, grown_new h.grown hg (fun j e => by cases e; omega), hl⟩, hg⟩
  simp only [World.setCell, Array.getElem?_modify, h3]
  simp
theorem DxAt.put3 (h : DxAt w i s v0 v1 v2 v3 v4 v5 W) (u3 u4 u5 : Value) : DxAt w i s v0 v1 v2 u3 u4 u5 (((W.setCell ⟨w.heap.size + 1, 3, none⟩ u3).setCell ⟨w.heap.size + 1, 4, none⟩ u4).setCell ⟨w.heap.size + 1, 5, none⟩ u5) ∧ W.grownBy (((W.setCell ⟨w.heap.size + 1, 3, none⟩ u3).setCell ⟨w.heap.size + 1, 4, none⟩ u4).setCell ⟨w.heap.size + 1, 5, none⟩ u5) (some (w.heap.size + 1)) := by
  have hl := h.lt
  have hg : W.grownBy (((W.setCell ⟨w.heap.size + 1, 3, none⟩ u3).setCell ⟨w.heap.size + 1, 4, none⟩ u4).setCell ⟨w.heap.size + 1, 5, none⟩ u5) (some (w.heap.size + 1)) := grownBy_set (grownBy_set (grownBy_set (grown_refl W _)))
  have h3 := h.b3
  refine ⟨⟨?_, (hg.block _ (Array.getElem?_eq_some_iff.1 h.b2).1 (by simp)).trans h.b2, h.inn.newer (by omega) hg, grown_new h.grown hg (fun j e => by cases e; omega), hl⟩, hg⟩
  simp only [World.setCell, Array.getElem?_modify, h3]
  simp
theorem DxAt.fin (h : DxAt w i s v0 v1 v2 v3 v4 v5 W) (u0 u1 u2 u3 u4 u5 : Value) :
    (((((((W.setCell ⟨w.heap.size, 0, none⟩ u0).setCell ⟨w.heap.size, 1, none⟩ u1).setCell ⟨w.heap.size, 2, none⟩ u2).setCell ⟨w.heap.size, 3, none⟩ u3).setCell ⟨w.heap.size, 4, none⟩ u4).setCell ⟨w.heap.size, 5, none⟩ u5).cell? ⟨w.heap.size, 0, none⟩ = some u0 ∧ ((((((W.setCell ⟨w.heap.size, 0, none⟩ u0).setCell ⟨w.heap.size, 1, none⟩ u1).setCell ⟨w.heap.size, 2, none⟩ u2).setCell ⟨w.heap.size, 3, none⟩ u3).setCell ⟨w.heap.size, 4, none⟩ u4).setCell ⟨w.heap.size, 5, none⟩ u5).cell? ⟨w.heap.size, 1, none⟩ = some u1 ∧ ((((((W.setCell ⟨w.heap.size, 0, none⟩ u0).setCell ⟨w.heap.size, 1, none⟩ u1).setCell ⟨w.heap.size, 2, none⟩ u2).setCell ⟨w.heap.size, 3, none⟩ u3).setCell ⟨w.heap.size, 4, none⟩ u4).setCell ⟨w.heap.size, 5, none⟩ u5).cell? ⟨w.heap.size, 2, none⟩ = some u2 ∧ ((((((W.setCell ⟨w.heap.size, 0, none⟩ u0).setCell ⟨w.heap.size, 1, none⟩ u1).setCell ⟨w.heap.size, 2, none⟩ u2).setCell ⟨w.heap.size, 3, none⟩ u3).setCell ⟨w.heap.size, 4, none⟩ u4).setCell ⟨w.heap.size, 5, none⟩ u5).cell? ⟨w.heap.size, 3, none⟩ = some u3 ∧ ((((((W.setCell ⟨w.heap.size, 0, none⟩ u0).setCell ⟨w.heap.size, 1, none⟩ u1).setCell ⟨w.heap.size, 2, none⟩ u2).setCell ⟨w.heap.size, 3, none⟩ u3).setCell ⟨w.heap.size, 4, none⟩ u4).setCell ⟨w.heap.size, 5, none⟩ u5).cell? ⟨w.heap.size, 4, none⟩ = some u4 ∧ ((((((W.setCell ⟨w.heap.size, 0, none⟩ u0).setCell ⟨w.heap.size, 1, none⟩ u1).setCell ⟨w.heap.size, 2, none⟩ u2).setCell ⟨w.heap.size, 3, none⟩ u3).setCell ⟨w.heap.size, 4, none⟩ u4).setCell ⟨w.heap.size, 5, none⟩ u5).cell? ⟨w.heap.size, 5, none⟩ = some u5) ∧
    Hid (XSt ((((((W.setCell ⟨w.heap.size, 0, none⟩ u0).setCell ⟨w.heap.size, 1, none⟩ u1).setCell ⟨w.heap.size, 2, none⟩ u2).setCell ⟨w.heap.size, 3, none⟩ u3).setCell ⟨w.heap.size, 4, none⟩ u4).setCell ⟨w.heap.size, 5, none⟩ u5) i s) ∧ Hid (w.grownBy ((((((W.setCell ⟨w.heap.size, 0, none⟩ u0).setCell ⟨w.heap.size, 1, none⟩ u1).setCell ⟨w.heap.size, 2, none⟩ u2).setCell ⟨w.heap.size, 3, none⟩ u3).setCell ⟨w.heap.size, 4, none⟩ u4).setCell ⟨w.heap.size, 5, none⟩ u5) (some i)) ∧
    Hid (W.grownBy ((((((W.setCell ⟨w.heap.size, 0, none⟩ u0).setCell ⟨w.heap.size, 1, none⟩ u1).setCell ⟨w.heap.size, 2, none⟩ u2).setCell ⟨w.heap.size, 3, none⟩ u3).setCell ⟨w.heap.size, 4, none⟩ u4).setCell ⟨w.heap.size, 5, none⟩ u5) (some w.heap.size)) := by
  have hl := h.lt
  have hg : W.grownBy ((((((W.setCell ⟨w.heap.size, 0, none⟩ u0).setCell ⟨w.heap.size, 1, none⟩ u1).setCell ⟨w.heap.size, 2, none⟩ u2).setCell ⟨w.heap.size, 3, none⟩ u3).setCell ⟨w.heap.size, 4, none⟩ u4).setCell ⟨w.heap.size, 5, none⟩ u5) (some w.heap.size) := grownBy_set (grownBy_set (grownBy_set (grownBy_set (grownBy_set (grownBy_set (grown_refl W _))))))
  have h2 := h.b2
  have hh : ((((((W.setCell ⟨w.heap.size, 0, none⟩ u0).setCell ⟨w.heap.size, 1, none⟩ u1).setCell ⟨w.heap.size, 2, none⟩ u2).setCell ⟨w.heap.size, 3, none⟩ u3).setCell ⟨w.heap.size, 4, none⟩ u4).setCell ⟨w.heap.size, 5, none⟩ u5).heap[w.heap.size]? = some (.cells #[u0, u1, u2, u3, u4, u5] 37 (0, 0)) := by
    simp only [World.setCell, Array.getElem?_modify, h2]
    simp
  obtain ⟨a0, a1, a2, a3, a4, a5, _⟩ := cells6 hh
  exact ⟨⟨a0, a1, a2, a3, a4, a5⟩, Lib.hid (h.inn.newer hl hg), Lib.hid (grown_new h.grown hg (fun j e => by cases e; omega)), Lib.hid hg⟩
end
/-- A call on the document's In gives a number with a delta; the In is in this state then, and nothing else has changed. -/
def XTakesD (i : Nat) (b : Bool) (xs ds : List Nat) (b' : Bool) (ys es : List Nat) (s : Pk.St) (w : World) (e : Ending) (w' : World) : Prop :=
  ∃ a1 c1 a2 c2 a3 c3 a4 c4, e = .returned (.agg #[.bool b, .slice a1 xs.length c1, .slice a2 ds.length c2, .bool b', .slice a3 ys.length c3, .slice a4 es.length c4]) ∧
    Hid ((Lst w' w.heap.size a1 c1 xs ∧ Lst w' w.heap.size a2 c2 ds) ∧ Lst w' w.heap.size a3 c3 ys ∧ Lst w' w.heap.size a4 c4 es) ∧ Hid (XSt w' i s) ∧ Hid (w.grownBy w' (some i))

set_option maxRecDepth 100000 in
set_option maxHeartbeats 8000000 in
theorem XDelta_any {w : World} {i : Nat} {s : Pk.St} (h : XSt w i s) (hT : Tab w) (hsm : Pk.ratSm s) (hsm2 : Pk.ratSm (Pk.ratN s)) :
    Calls Tryz.prog 37 #[.pointer (some ⟨i, 0, none⟩)] w (XTakesD i (Pk.delOK s && Pk.ratS s) (if Pk.delOK s then Pk.ratX s else []) (if Pk.delOK s then Pk.ratD s else []) (Pk.delOK s && Pk.ratS (Pk.ratN s)) (if Pk.delOK s then Pk.ratX (Pk.ratN s) else []) (if Pk.delOK s then Pk.ratD (Pk.ratN s) else []) (Pk.delN s) w) := by
  obtain ⟨W0, hW0⟩ : ∃ W0, W0 = ((w.alloc (.cells #[.bool false, .slice none 0 0, .slice none 0 0, .bool false, .slice none 0 0, .slice none 0 0] 37)).alloc (.cells #[.bool false, .slice none 0 0, .slice none 0 0, .bool false, .slice none 0 0, .slice none 0 0] 37)) := ⟨_, rfl⟩
  have HS := Lib.hid (DxAt.start h)
  rw [← hW0] at HS
  have HW0 := Lib.hid hW0
  have HSZ : Hid (W0.heap.size = w.heap.size + 1 + 1) := Lib.hid (by rw [hW0]; simp)
  have HTB := Lib.hid hT
  have HNB := Lib.hid h.no
  have HF := Lib.hid (XRatio_any HS.out.inn (HTB.out.noByte HNB.out HS.out.grown) hsm)
  have HSM2 := Lib.hid hsm2
  have hil := h.lt
  clear h hT hW0 hsm hsm2
  obtain ⟨f0, h0⟩ : ∃ f, f = (Pk.delOK s && Pk.ratS s) := ⟨_, rfl⟩
  obtain ⟨f1, h1⟩ : ∃ f, f = (if Pk.delOK s then Pk.ratX s else []) := ⟨_, rfl⟩
  obtain ⟨f2, h2⟩ : ∃ f, f = (if Pk.delOK s then Pk.ratD s else []) := ⟨_, rfl⟩
  obtain ⟨f3, h3⟩ : ∃ f, f = (Pk.delOK s && Pk.ratS (Pk.ratN s)) := ⟨_, rfl⟩
  obtain ⟨f4, h4⟩ : ∃ f, f = (if Pk.delOK s then Pk.ratX (Pk.ratN s) else []) := ⟨_, rfl⟩
  obtain ⟨f5, h5⟩ : ∃ f, f = (if Pk.delOK s then Pk.ratD (Pk.ratN s) else []) := ⟨_, rfl⟩
  rw [← h0, ← h1, ← h2, ← h3, ← h4, ← h5]
  unfold Pk.delOK Pk.delN at h0 h1 h2 h3 h4 h5
  unfold Pk.delN
  have HQ := Lib.hid (And.intro h0 (And.intro h1 (And.intro h2 (And.intro h3 (And.intro h4 h5)))))
  clear h0 h1 h2 h3 h4 h5
  generalize Pk.ratS s = b at *
  generalize Pk.ratX s = xs at *
  generalize Pk.ratD s = ds at *
  generalize Pk.ratN s = s1 at *
  go_enter Tryz.func37, Tryz.ntmps37
  go_wp2_with fail
  rw [← HW0.out]
  refine HF.out.mono ?_
  rintro e w1 ⟨a1, c1, a2, c2, rfl, M, G1, G2⟩
  have HS1 := Lib.hid (HS.out.move G1.out G2.out)
  have HM1 : Hid (Lst w1 (w.heap.size + 1) a1 c1 xs ∧ Lst w1 (w.heap.size + 1) a2 c2 ds) := Lib.hid (by
    have hz := HSZ.out
    exact ⟨M.out.1.mono (by omega), M.out.2.mono (by omega)⟩)
  obtain ⟨q0, q1, q2, q3, q4, q5, t0, t1, t2, t3, t4, t5⟩ := cells6 HS1.out.b3
  have HS2 := Lib.hid (HS1.out.put0 (.bool b) (.slice a1 xs.length c1) (.slice a2 ds.length c2))
  have HM2 : Hid (Lst _ (w.heap.size + 1) a1 c1 xs ∧ Lst _ (w.heap.size + 1) a2 c2 ds) := Lib.hid ⟨HM1.out.1.past HS2.out.2 (Nat.le_refl _), HM1.out.2.past HS2.out.2 (Nat.le_refl _)⟩
  have HF2 := Lib.hid (XRatio_any HS2.out.1.inn (HTB.out.noByte HNB.out HS2.out.1.grown) HSM2.out)
  clear HF HS M G1 G2 HS1 HM1
  generalize Pk.ratS s1 = b' at *
  generalize Pk.ratX s1 = ys at *
  generalize Pk.ratD s1 = es at *
  generalize Pk.ratN s1 = s2 at *
  go_wp2_with fail
  refine HF2.out.mono ?_
  rintro e w2 ⟨a3, c3, a4, c4, rfl, M, G1, G2⟩
  have HS3 := Lib.hid (HS2.out.1.move G1.out G2.out)
  have HM3 : Hid ((Lst w2 (w.heap.size + 1) a1 c1 xs ∧ Lst w2 (w.heap.size + 1) a2 c2 ds) ∧ Lst w2 (w.heap.size + 1) a3 c3 ys ∧ Lst w2 (w.heap.size + 1) a4 c4 es) := Lib.hid (by
    have h1 := HS2.out.1.lt
    have h2 := (Array.getElem?_eq_some_iff.1 HS2.out.1.b3).1
    exact ⟨⟨HM2.out.1.past G2.out (by omega), HM2.out.2.past G2.out (by omega)⟩, M.out.1.mono (by omega), M.out.2.mono (by omega)⟩)
  clear q0 q1 q2 q3 q4 q5 t0 t1 t2 t3 t4 t5
  obtain ⟨q0, q1, q2, q3, q4, q5, t0, t1, t2, t3, t4, t5⟩ := cells6 HS3.out.b3
  obtain ⟨r0, r1, r2, r3, r4, r5, y0, y1, y2, y3, y4, y5⟩ := cells6 HS3.out.b2
  have HS4 := Lib.hid (HS3.out.put3 (.bool b') (.slice a3 ys.length c3) (.slice a4 es.length c4))
  have HM4 : Hid ((Lst _ (w.heap.size + 1) a1 c1 xs ∧ Lst _ (w.heap.size + 1) a2 c2 ds) ∧ Lst _ (w.heap.size + 1) a3 c3 ys ∧ Lst _ (w.heap.size + 1) a4 c4 es) := Lib.hid ⟨⟨HM3.out.1.1.past HS4.out.2 (Nat.le_refl _), HM3.out.1.2.past HS4.out.2 (Nat.le_refl _)⟩, HM3.out.2.1.past HS4.out.2 (Nat.le_refl _), HM3.out.2.2.past HS4.out.2 (Nat.le_refl _)⟩
  obtain ⟨ai, ci, BI, atI, hI⟩ := HS3.out.inn
  obtain ⟨i0, i2, i1, j0, j2, j1⟩ := hI.cells
  have h2 := (Array.getElem?_eq_some_iff.1 HS3.out.b2).1
  clear hI HF2 HS2 HS3 HM2 HM3 M G1 G2 HSM2
  cases s2
  case none =>
    obtain ⟨rfl, rfl, rfl, rfl, rfl, rfl⟩ : f0 = false ∧ f1 = [] ∧ f2 = [] ∧ f3 = false ∧ f4 = [] ∧ f5 = [] := HQ.out
    have HFI := Lib.hid (HS4.out.1.fin (.bool false) (.slice none 0 0) (.slice none 0 0) (.bool false) (.slice none 0 0) (.slice none 0 0))
    clear HS4 HM4
    go_wp2_with fail
    obtain ⟨⟨r0, r1, r2, r3, r4, r5⟩, k1, k2, _⟩ := HFI.out
    refine bodyPost_ret (v := .agg #[.bool false, .slice none 0 0, .slice none 0 0, .bool false, .slice none 0 0, .slice none 0 0]) ?_ rfl ?_
    · simp [results, Tryz.results37, go_sem, r0, r1, r2, r3, r4, r5]
    · exact ⟨none, 0, none, 0, none, 0, none, 0, rfl, Lib.hid ⟨⟨.nil _ _, .nil _ _⟩, .nil _ _, .nil _ _⟩, k1, k2⟩
  case some r =>
    obtain ⟨e0, e1, e2, e3, e4, e5⟩ : f0 = b ∧ f1 = xs ∧ f2 = ds ∧ f3 = b' ∧ f4 = ys ∧ f5 = es := HQ.out
    subst e0 e1 e2 e3 e4 e5
    clear HQ
    have HFI := Lib.hid (HS4.out.1.fin (.bool f0) (.slice a1 f1.length c1) (.slice a2 f2.length c2) (.bool f3) (.slice a3 f4.length c3) (.slice a4 f5.length c4))
    clear HS4
    go_wp2_with fail
    obtain ⟨⟨r0, r1, r2, r3, r4, r5⟩, k1, k2, k3⟩ := HFI.out
    refine bodyPost_ret (v := .agg #[.bool f0, .slice a1 f1.length c1, .slice a2 f2.length c2, .bool f3, .slice a3 f4.length c3, .slice a4 f5.length c4]) ?_ rfl ?_
    · simp [results, Tryz.results37, go_sem, r0, r1, r2, r3, r4, r5]
    · exact ⟨a1, c1, a2, c2, a3, c3, a4, c4, rfl, Lib.hid ⟨⟨(HM4.out.1.1.past k3.out (by omega)).mono (by omega), (HM4.out.1.2.past k3.out (by omega)).mono (by omega)⟩, (HM4.out.2.1.past k3.out (by omega)).mono (by omega), (HM4.out.2.2.past k3.out (by omega)).mono (by omega)⟩, k1, k2⟩
end Go.Proofs.YtodedlnpokagfaaGreatDoor


/-
  law04: an In and the document's, side by side; Same of numbers with a delta.
-/
set_option linter.unusedVariables false
set_option linter.unusedSimpArgs false
namespace Go.Proofs.YtodedlnpokagfaaGreatDoor
open Go.RowKit Rep

/-- Of what was there only blocks i and x have changed. -/
structure Two (i x : Nat) (w w' : World) : Prop where
  os : w'.os = w.os
  tape : w'.tape = w.tape
  output : w'.output = w.output
  size : w.heap.size ≤ w'.heap.size
  block : ∀ k, k < w.heap.size → k ≠ i → k ≠ x → w'.heap[k]? = w.heap[k]?
section
variable {i x : Nat} {w w1 w2 : World}
theorem Two.refl (i x : Nat) (w : World) : Two i x w w := ⟨rfl, rfl, rfl, Nat.le_refl _, fun _ _ _ _ => rfl⟩
theorem Two.trans (h : Two i x w w1) (k : Two i x w1 w2) : Two i x w w2 := ⟨k.os.trans h.os, k.tape.trans h.tape, k.output.trans h.output, Nat.le_trans h.size k.size, fun j hj h1 h2 => (k.block j (Nat.lt_of_lt_of_le hj h.size) h1 h2).trans (h.block j hj h1 h2)⟩
theorem Two.of_below (h : Below w.heap.size w w1) : Two i x w w1 := ⟨h.os, h.tape, h.output, h.size, fun k hk _ _ => h.block k hk⟩
theorem Two.of_first (h : w.grownBy w1 (some i)) : Two i x w w1 := ⟨h.os, h.tape, h.output, h.size, fun k hk h1 _ => h.block k hk (by simpa using h1)⟩
theorem Two.of_second (h : w.grownBy w1 (some x)) : Two i x w w1 := ⟨h.os, h.tape, h.output, h.size, fun k hk _ h2 => h.block k hk (by simpa using h2)⟩
theorem Two.below {B : Nat} (h : Two i x w w1) (hi : B ≤ i) (hx : B ≤ x) (hB : B ≤ w.heap.size) : Below B w w1 := ⟨h.os, h.tape, h.output, h.size, fun k hk => h.block k (by omega) (by omega) (by omega)⟩
end
/-- Both, in their states. -/
structure Pr (w W : World) (i x : Nat) (s t : Pk.St) : Prop where
  inn : InSt W i s
  ref : XSt W x t
  ne : i ≠ x
  frame : Two i x w W
  tab : Tab W
section
variable {w W W' : World} {i x : Nat} {s s' t t' : Pk.St}
theorem Pr.kept (h : Pr w W i x s t) (hb : Below W.heap.size W W') : Pr w W' i x s t := ⟨h.inn.kept hb, h.ref.kept hb, h.ne, h.frame.trans (.of_below hb), h.tab.kept hb⟩
theorem Pr.first (h : Pr w W i x s t) (hi : InSt W' i s') (hg : W.grownBy W' (some i)) : Pr w W' i x s' t := ⟨hi, h.ref.past h.inn.no h.ne.symm hg, h.ne, h.frame.trans (.of_first hg), h.tab.noByte h.inn.no hg⟩
theorem Pr.second (h : Pr w W i x s t) (hx : XSt W' x t') (hg : W.grownBy W' (some x)) : Pr w W' i x s t' := ⟨h.inn.past h.ref.no h.ne hg, hx, h.ne, h.frame.trans (.of_second hg), h.tab.noByte h.ref.no hg⟩
end
/-! ### How much is left -/
namespace Pk
theorem left_cut (k : Nat) (s : St) : left (cutN k s) ≤ left s := cutN_left k s
theorem left_count (m : Int) (s : St) : left (countN m s) ≤ left s := by
  unfold countN
  split
  · exact cutN_left 8 s
  · exact Nat.zero_le _
theorem left_repN (k n : Nat) (s : St) : left (repN k n s) ≤ left s := by
  induction n generalizing s with
  | zero => exact Nat.le_refl _
  | succ n ih => exact Nat.le_trans (ih (cutN k s)) (cutN_left k s)
theorem left_list (k : Nat) (s : St) : left (listN k s) ≤ left s := Nat.le_trans (left_repN _ _ _) (left_count _ _)
theorem left_flag (s : St) : left (flagN s) ≤ left s := by
  unfold flagN
  split
  · exact cutN_left 1 s
  · exact Nat.zero_le _
theorem left_bytes (s : St) : left (bytesN s) ≤ left s := Nat.le_trans (cutN_left _ _) (left_count _ _)
theorem left_rat (s : St) : left (ratN s) ≤ left s := by
  unfold ratN
  split
  · exact Nat.le_trans (left_list _ _) (Nat.le_trans (left_list _ _) (left_flag _))
  · exact Nat.zero_le _
theorem count_le (s : St) : countV 4 s ≤ left s / 4 := by
  unfold countV
  split
  · rename_i h
    unfold countOK at h
    rw [decide_eq_true_eq] at h
    have h1 : left (intN s) ≤ left s := cutN_left 8 s
    have h2 : (max (4 : Int) 1).toNat = 4 := by decide
    rw [h2] at h
    omega
  · exact Nat.zero_le _
theorem count_le' (s : St) : countV ((4 : Nat) : Int) s ≤ left s / 4 := count_le s
theorem sm_of {s : St} (h : left s ≤ 40000) : ratSm s := by
  refine ⟨?_, ?_⟩
  · unfold listV
    rw [rep_length]
    have := count_le' (flagN s)
    have := left_flag s
    omega
  · unfold listV
    rw [rep_length]
    have := count_le' (listN 4 (flagN s))
    have := left_flag s
    have := left_list 4 (flagN s)
    omega
end Pk
/-! ### Same -/
set_option maxRecDepth 100000 in
set_option maxHeartbeats 4000000 in
theorem SameL_any {w : World} {s1 s2 t1 t2 : Bool} {a1 b1 a2 b2 d1 e1 d2 e2 : Option Addr} {c1 c2 c3 c4 c5 c6 c7 c8 : Nat} {xs ds ys es xs' ds' ys' es' : List Nat}
    (h1 : Reads w a1 (xs.map u32v)) (h2 : Reads w b1 (ds.map u32v)) (h3 : Reads w a2 (ys.map u32v)) (h4 : Reads w b2 (es.map u32v)) (k1 : Reads w d1 (xs'.map u32v)) (k2 : Reads w e1 (ds'.map u32v)) (k3 : Reads w d2 (ys'.map u32v)) (k4 : Reads w e2 (es'.map u32v))
    (l1 : xs.length ≤ 1000000) (l2 : ds.length ≤ 1000000) (l3 : ys.length ≤ 1000000) (l4 : es.length ≤ 1000000) :
    Calls Tryz.prog 33 #[.agg #[.bool s1, .slice a1 xs.length c1, .slice b1 ds.length c2, .bool s2, .slice a2 ys.length c3, .slice b2 es.length c4], .agg #[.bool t1, .slice d1 xs'.length c5, .slice e1 ds'.length c6, .bool t2, .slice d2 ys'.length c7, .slice e2 es'.length c8]] w
      (GivesB (decide (s1 = t1 ∧ xs = xs' ∧ ds = ds') && decide (s2 = t2 ∧ ys = ys' ∧ es = es')) w) := by
  obtain ⟨W0, hW0, hB0, b0, b1', hs⟩ := boxes2 w #[.bool s1, .slice a1 xs.length c1, .slice b1 ds.length c2, .bool s2, .slice a2 ys.length c3, .slice b2 es.length c4] #[.bool t1, .slice d1 xs'.length c5, .slice e1 ds'.length c6, .bool t2, .slice d2 ys'.length c7, .slice e2 es'.length c8] 37 37
  have HK : Hid (∀ W, Below W0.heap.size W0 W → (W.cell? ⟨w.heap.size, 0, none⟩ = some (.bool s1) ∧ W.cell? ⟨w.heap.size, 1, none⟩ = some (.slice a1 xs.length c1) ∧ W.cell? ⟨w.heap.size, 2, none⟩ = some (.slice b1 ds.length c2) ∧ W.cell? ⟨w.heap.size, 3, none⟩ = some (.bool s2) ∧ W.cell? ⟨w.heap.size, 4, none⟩ = some (.slice a2 ys.length c3) ∧ W.cell? ⟨w.heap.size, 5, none⟩ = some (.slice b2 es.length c4) ∧ W.cell? ⟨w.heap.size + 1, 0, none⟩ = some (.bool t1) ∧ W.cell? ⟨w.heap.size + 1, 1, none⟩ = some (.slice d1 xs'.length c5) ∧ W.cell? ⟨w.heap.size + 1, 2, none⟩ = some (.slice e1 ds'.length c6) ∧ W.cell? ⟨w.heap.size + 1, 3, none⟩ = some (.bool t2) ∧ W.cell? ⟨w.heap.size + 1, 4, none⟩ = some (.slice d2 ys'.length c7) ∧ W.cell? ⟨w.heap.size + 1, 5, none⟩ = some (.slice e2 es'.length c8))) := Lib.hid fun W h => by
    obtain ⟨k0, k1, k2, k3, k4, k5, _⟩ := cells6 (stay b0 h)
    obtain ⟨k6, k7, k8, k9, k10, k11, _⟩ := cells6 (stay b1' h)
    exact ⟨k0, k1, k2, k3, k4, k5, k6, k7, k8, k9, k10, k11⟩
  have HBL := Lib.hid hB0
  have HW0 := Lib.hid hW0
  obtain ⟨k0, k1', k2', k3', k4', k5, k6, k7, k8, k9, k10, k11⟩ := HK.out W0 (Below.refl _ _)
  have HC1 := Lib.hid (fun W (h : Below W0.heap.size W0 W) => SameR_any s1 t1 a1 b1 d1 e1 c1 c2 c5 c6 xs ds xs' ds' W ((h1.kept hB0).kept h) ((h2.kept hB0).kept h) ((k1.kept hB0).kept h) ((k2.kept hB0).kept h) l1 l2)
  have HC2 := Lib.hid (fun W (h : Below W0.heap.size W0 W) => SameR_any s2 t2 a2 b2 d2 e2 c3 c4 c7 c8 ys es ys' es' W ((h3.kept hB0).kept h) ((h4.kept hB0).kept h) ((k3.kept hB0).kept h) ((k4.kept hB0).kept h) l3 l4)
  unfold ratV at HC1 HC2
  clear hW0 hB0 b0 b1' hs h1 h2 h3 h4 k1 k2 k3 k4 l1 l2 l3 l4
  generalize decide (s1 = t1 ∧ xs = xs' ∧ ds = ds') = q1 at *
  generalize decide (s2 = t2 ∧ ys = ys' ∧ es = es') = q2 at *
  cases q1 with
  | false =>
    clear HC2
    go_enter Tryz.func33, Tryz.ntmps33
    go_wp2_with fail
    rw [← HW0.out]
    refine (HC1.out W0 (Below.refl _ _)).mono ?_
    rintro e w3 ⟨rfl, G3⟩
    have HE := Lib.hid (HBL.out.trans (G3.mono HBL.out.size))
    clear HC1 G3
    go_wp2_with fail
    go_ret
    exact ⟨rfl, HE.out⟩
  | true =>
    go_enter Tryz.func33, Tryz.ntmps33
    go_wp2_with fail
    rw [← HW0.out]
    refine (HC1.out W0 (Below.refl _ _)).mono ?_
    rintro e w3 ⟨rfl, G3⟩
    obtain ⟨k0, k1, k2, k3, k4, k5, k6, k7, k8, k9, k10, k11⟩ := HK.out _ G3
    have HG3 := Lib.hid G3
    clear HC1 G3
    go_wp2_with fail
    refine (HC2.out _ HG3.out).mono ?_
    rintro e w4 ⟨rfl, G4⟩
    have HE := Lib.hid (HBL.out.trans ((HG3.out.trans (G4.mono HG3.out.size)).mono HBL.out.size))
    clear HC2 G4
    go_wp2_with fail
    go_ret
    exact ⟨by cases q2 <;> rfl, HE.out⟩
end Go.Proofs.YtodedlnpokagfaaGreatDoor
