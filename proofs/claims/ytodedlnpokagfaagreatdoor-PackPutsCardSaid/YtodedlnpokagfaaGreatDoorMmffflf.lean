/- By program out of: PkPutR, PkRPut, PkRPut2, PkRLimbs, PkRRat, DelRef, DelCmp, DelText, DelBy, DelBySub, DelByMul, DelOps, DelOdd, PkThing, PkPSt. -/
import Derived.Test.YtodedlnpokagfaaGreatDoorMhegnla
import Derived.Test.YtodedlnpokagfaaGreatDoorMejeoaf
/-
  Layer 4: Out.Ratio, Out.Delta.
-/
set_option linter.unusedVariables false
set_option linter.unusedSimpArgs false
namespace Go.Proofs.YtodedlnpokagfaaGreatDoor
open Go.RowKit Rep

theorem PutsO.before {w w1 w2 : World} {S : Nat → Prop} {o : Nat} {bs : List Nat} {e : Ending} (hb : Below w.heap.size w w1) (h : PutsO o S bs w1 e w2) : PutsO o S bs w e w2 := by
  obtain ⟨h1, h2, h3⟩ := h
  have h4 := hb.size
  refine ⟨h1, Lib.hid (h2.out.mono fun k hk => ?_), Lib.hid ((Chg.of_below hb).trans' h3.out)⟩
  rcases hk with hk | hk
  · exact .inl hk
  · exact .inr ⟨by omega, hk.2⟩
/-- Limbs that are put. -/
structure LimbsP (w : World) (S : Nat → Prop) (a : Option Addr) (c : Nat) (xs : List Nat) : Prop where
  reads : Reads w a (xs.map u32v)
  apart : xs = [] ∨ ∀ g, blk a = some g → ¬ S g
  lim : Lim xs
  le : xs.length ≤ c
  cap : c ≤ maxLen
  len : xs.length ≤ 1000
theorem LimbsP.chg {w w' : World} {S : Nat → Prop} {a : Option Addr} {c : Nat} {xs : List Nat} (h : LimbsP w S a c xs) (hc : Chg S w w') : LimbsP w' S a c xs := ⟨h.reads.chg' hc h.apart, h.apart, h.lim, h.le, h.cap, h.len⟩
theorem LimbsP.plus {w w' : World} {S : Nat → Prop} {a : Option Addr} {c : Nat} {xs : List Nat} (h : LimbsP w S a c xs) (hc : Chg S w w') : LimbsP w' (Plus S w w') a c xs := by
  refine ⟨h.reads.chg' hc h.apart, ?_, h.lim, h.le, h.cap, h.len⟩
  by_cases e : xs = []
  · exact .inl e
  · refine .inr fun g' e' hp => ?_
    rcases h.reads with h0 | ⟨g, off, rfl, h0⟩
    · exact e (by simpa using h0)
    · cases e'
      have hlt := World.block_lt_of_cell? _ _ (h0 0 _ (map_getElem? (xs := xs) (f := u32v) (List.length_pos_iff.2 e)))
      rcases hp with hp | hp
      · rcases h.apart with h1 | h1
        · exact e h1
        · exact h1 _ rfl hp
      · have h2 : w.heap.size ≤ g := hp.1
        have h3 : g < w.heap.size := hlt
        omega
/-- Put at limbs, said of a later world. -/
theorem PutU_at {w W : World} {o : Nat} {S : Nat → Prop} {bs xs : List Nat} {a : Option Addr} {c : Nat} (h : PtAt w o S bs W) (hS : ∀ j, S j → j < w.heap.size) (hx : LimbsP w S a c xs) (hl : bs.length ≤ 80000) :
    Calls Tryz.prog 45 #[.pointer (some ⟨o, 0, none⟩), .slice a xs.length c, .func (.func 46) #[.pointer (some ⟨o, 0, none⟩)] #[]] W (fun e W' => e = .returned (.tuple #[]) ∧ Hid (PtAt w o S (bs ++ Pk.encL xs) W')) := by
  have hlen := hx.len
  have he : bs ++ Pk.encI xs.length ++ xs.flatMap (Pk.be 4) = bs ++ Pk.encL xs := by unfold Pk.encL; rw [List.append_assoc]
  have key : Calls Tryz.prog 45 #[.pointer (some ⟨o, 0, none⟩), .slice a xs.length c, .func (.func 46) #[.pointer (some ⟨o, 0, none⟩)] #[]] W (PutsO o (Plus S w W) (bs ++ Pk.encL xs) W) := by
    rw [← he]
    exact PutU_any h.out (Plus.lt hS h.chg.size) (hx.reads.chg' h.chg hx.apart) (hx.plus h.chg).apart hx.lim hx.le hx.cap (by omega)
  exact key.mono fun e W' hp => ⟨hp.1, Lib.hid (h.next hp)⟩

set_option maxRecDepth 100000 in
set_option maxHeartbeats 2000000 in
theorem ORatio_any {w : World} {o : Nat} {S : Nat → Prop} {bs xs ds : List Nat} {s : Bool} {a1 a2 : Option Addr} {c1 c2 : Nat} (h : OutSt w o S bs) (hS : ∀ j, S j → j < w.heap.size) (hx : LimbsP w S a1 c1 xs) (hd : LimbsP w S a2 c2 ds) (hl : bs.length ≤ 70000) :
    Calls Tryz.prog 21 #[.pointer (some ⟨o, 0, none⟩), .agg #[.bool s, .slice a1 xs.length c1, .slice a2 ds.length c2]] w (PutsO o S (bs ++ Pk.encR s xs ds) w) := by
  obtain ⟨W0, hW0⟩ : ∃ W0, W0 = w.alloc (.cells #[.bool s, .slice a1 xs.length c1, .slice a2 ds.length c2] 35) := ⟨_, rfl⟩
  have hB0 : Below w.heap.size w W0 := by rw [hW0]; exact (Below.refl _ _).alloc (Nat.le_refl _) _
  have hS0 : ∀ j, S j → j < W0.heap.size := fun j hj => by have := hS j hj; have := hB0.size; omega
  have hb0 : W0.heap[w.heap.size]? = some (.cells #[.bool s, .slice a1 xs.length c1, .slice a2 ds.length c2] 35 (0, 0)) := by rw [hW0]; exact heap_alloc_new w _
  have HK : Hid (∀ W, Chg S W0 W → W.cell? ⟨w.heap.size, 0, none⟩ = some (.bool s) ∧ W.cell? ⟨w.heap.size, 1, none⟩ = some (.slice a1 xs.length c1) ∧ W.cell? ⟨w.heap.size, 2, none⟩ = some (.slice a2 ds.length c2)) := Lib.hid fun W hc => by
    obtain ⟨k0, k1, k2, _⟩ := cells3 ((hc.block _ (Array.getElem?_eq_some_iff.1 hb0).1 (fun e => by have := hS _ e; omega)).trans hb0)
    exact ⟨k0, k1, k2⟩
  have HF := Lib.hid (OFlag_any (b := s) (h.kept hB0) (by omega))
  have HX := Lib.hid (hx.chg (.of_below hB0))
  have HD := Lib.hid (hd.chg (.of_below hB0))
  have HS0 := Lib.hid hS0
  have HB0 := Lib.hid hB0
  have HW0 := Lib.hid hW0
  have HLX := Lib.hid hx.len
  have HE : Hid (((bs ++ Pk.encF s) ++ Pk.encL xs) ++ Pk.encL ds = bs ++ Pk.encR s xs ds) := Lib.hid (by unfold Pk.encR; simp [List.append_assoc])
  obtain ⟨k0, k1, k2⟩ := HK.out W0 (Chg.refl _ _)
  have HL1 : Hid ((bs ++ Pk.encF s).length ≤ 80000 ∧ ((bs ++ Pk.encF s) ++ Pk.encL xs).length ≤ 80000) := Lib.hid (by
    have := hx.len
    unfold Pk.encL Pk.encF
    have h2 := flat_len 4 xs
    simp only [List.length_append, List.length_singleton, Pk.encI_length, h2]
    omega)
  clear h hS hx hd hW0 hB0 hS0 hb0
  go_enter Tryz.func21, Tryz.ntmps21
  go_wp2_with fail
  rw [← HW0.out]
  refine HF.out.mono ?_
  intro e w1 HP
  have H1 := Lib.hid HP.pt
  obtain ⟨rfl, _, _⟩ := HP
  obtain ⟨k0, k1, k2⟩ := HK.out w1 H1.out.chg
  have HP1 := Lib.hid (PutU_at H1.out HS0.out HX.out HL1.out.1)
  clear HF
  go_wp2_with fail
  refine HP1.out.mono ?_
  rintro e w2 ⟨rfl, H2⟩
  obtain ⟨k0, k1, k2⟩ := HK.out w2 H2.out.chg
  have HP2 := Lib.hid (PutU_at H2.out HS0.out HD.out HL1.out.2)
  clear HP1 H1
  go_wp2_with fail
  refine HP2.out.mono ?_
  rintro e w3 ⟨rfl, H3⟩
  clear HP2 H2
  go_wp2_with fail
  go_end0
  rw [← HE.out]
  exact PutsO.before HB0.out ⟨rfl, Lib.hid H3.out.out, Lib.hid H3.out.chg⟩
set_option maxRecDepth 100000 in
set_option maxHeartbeats 2000000 in
theorem ODelta_any {w : World} {o : Nat} {S : Nat → Prop} {bs xs ds ys es : List Nat} {s t : Bool} {a1 a2 b1 b2 : Option Addr} {c1 c2 e1 e2 : Nat} (h : OutSt w o S bs) (hS : ∀ j, S j → j < w.heap.size) (hx : LimbsP w S a1 c1 xs) (hd : LimbsP w S a2 c2 ds) (hy : LimbsP w S b1 e1 ys) (he : LimbsP w S b2 e2 es)
    (hl : bs.length ≤ 60000) :
    Calls Tryz.prog 23 #[.pointer (some ⟨o, 0, none⟩), .agg #[.bool s, .slice a1 xs.length c1, .slice a2 ds.length c2, .bool t, .slice b1 ys.length e1, .slice b2 es.length e2]] w (PutsO o S (bs ++ (Pk.encR s xs ds ++ Pk.encR t ys es)) w) := by
  obtain ⟨W0, hW0⟩ : ∃ W0, W0 = w.alloc (.cells #[.bool s, .slice a1 xs.length c1, .slice a2 ds.length c2, .bool t, .slice b1 ys.length e1, .slice b2 es.length e2] 37) := ⟨_, rfl⟩
  have hB0 : Below w.heap.size w W0 := by rw [hW0]; exact (Below.refl _ _).alloc (Nat.le_refl _) _
  have hS0 : ∀ j, S j → j < W0.heap.size := fun j hj => by have := hS j hj; have := hB0.size; omega
  have hb0 : W0.heap[w.heap.size]? = some (.cells #[.bool s, .slice a1 xs.length c1, .slice a2 ds.length c2, .bool t, .slice b1 ys.length e1, .slice b2 es.length e2] 37 (0, 0)) := by rw [hW0]; exact heap_alloc_new w _
  have HK : Hid (∀ W, Chg S W0 W → W.cell? ⟨w.heap.size, 0, none⟩ = some (.bool s) ∧ W.cell? ⟨w.heap.size, 1, none⟩ = some (.slice a1 xs.length c1) ∧ W.cell? ⟨w.heap.size, 2, none⟩ = some (.slice a2 ds.length c2) ∧ W.cell? ⟨w.heap.size, 3, none⟩ = some (.bool t) ∧ W.cell? ⟨w.heap.size, 4, none⟩ = some (.slice b1 ys.length e1) ∧ W.cell? ⟨w.heap.size, 5, none⟩ = some (.slice b2 es.length e2)) := Lib.hid fun W hc => by
    obtain ⟨k0, k1, k2, k3, k4, k5, _⟩ := cells6 ((hc.block _ (Array.getElem?_eq_some_iff.1 hb0).1 (fun e => by have := hS _ e; omega)).trans hb0)
    exact ⟨k0, k1, k2, k3, k4, k5⟩
  have HF := Lib.hid (ORatio_any (s := s) (h.kept hB0) hS0 (hx.chg (.of_below hB0)) (hd.chg (.of_below hB0)) (by omega))
  have HY := Lib.hid (hy.chg (.of_below hB0))
  have HEE := Lib.hid (he.chg (.of_below hB0))
  have HS0 := Lib.hid hS0
  have HB0 := Lib.hid hB0
  have HW0 := Lib.hid hW0
  have HE : Hid ((bs ++ Pk.encR s xs ds) ++ Pk.encR t ys es = bs ++ (Pk.encR s xs ds ++ Pk.encR t ys es)) := Lib.hid (List.append_assoc _ _ _)
  obtain ⟨k0, k1, k2, k3, k4, k5⟩ := HK.out W0 (Chg.refl _ _)
  have HL1 : Hid ((bs ++ Pk.encR s xs ds).length ≤ 70000) := Lib.hid (by
    have := hx.len
    have := hd.len
    unfold Pk.encR Pk.encL Pk.encF
    have h2 := flat_len 4 xs
    have h3 := flat_len 4 ds
    simp only [List.length_append, List.length_singleton, Pk.encI_length, h2, h3]
    omega)
  clear h hS hx hd hy he hW0 hB0 hS0 hb0
  go_enter Tryz.func23, Tryz.ntmps23
  go_wp2_with fail
  rw [← HW0.out]
  refine HF.out.mono ?_
  intro e w1 HP
  have H1 := Lib.hid HP.pt
  obtain ⟨rfl, _, _⟩ := HP
  obtain ⟨k0, k1, k2, k3, k4, k5⟩ := HK.out w1 H1.out.chg
  have HP1 := Lib.hid (ORatio_any (s := t) H1.out.out (Plus.lt HS0.out H1.out.chg.size) (HY.out.plus H1.out.chg) (HEE.out.plus H1.out.chg) HL1.out)
  clear HF
  go_wp2_with fail
  refine HP1.out.mono ?_
  intro e w2 HP
  have H2 := Lib.hid (H1.out.next HP)
  obtain ⟨rfl, _, _⟩ := HP
  clear HP1 H1
  go_wp2_with fail
  go_end0
  rw [← HE.out]
  exact PutsO.before HB0.out ⟨rfl, Lib.hid H2.out.out, Lib.hid H2.out.chg⟩
end Go.Proofs.YtodedlnpokagfaaGreatDoor


/-
  Layer 4: the document's Int and Flag, behind others.
-/
set_option linter.unusedVariables false
set_option linter.unusedSimpArgs false
namespace Go.Proofs.YtodedlnpokagfaaGreatDoor
open Go.RowKit Rep

/-- A call gives a row with these bytes, out of that at a. -/
def PutsR (a : Option Addr) (bs : List Nat) (w : World) (e : Ending) (w' : World) : Prop :=
  ∃ a' c', e = .returned (.slice a' bs.length c') ∧ Hid (OwnR 5 u8v 0 w' a' c' bs) ∧ Hid (w.grownBy w' (blk a)) ∧ Hid (∀ j, blk a' = some j → blk a = some j ∨ w.heap.size ≤ j)
theorem PutsR.before {a : Option Addr} {bs : List Nat} {w w1 : World} {e : Ending} {w' : World} (hb : Below w.heap.size w w1) (h : PutsR a bs w1 e w') : PutsR a bs w e w' := by
  obtain ⟨a', c', h1, h2, h3, h4⟩ := h
  exact ⟨a', c', h1, h2, Lib.hid (grownBy_trans_new (grown_of_below hb _) h3.out), Lib.hid fun j hj => by
    rcases h4.out j hj with h | h
    · exact .inl h
    · exact .inr (by have := hb.size; omega)⟩
/-- The array of a number, behind so many rounds. -/
structure ArrAt (w : World) (m k : Nat) (wr : World) : Prop where
  arr : ∃ Q : List Nat, Q.length = 8 ∧ wr.heap[w.heap.size]? = some (.cells (Q.map u8v).toArray 78 (0, 0)) ∧ Q.drop k = Pk.be (8 - k) m
  below : Below w.heap.size w wr
theorem ArrAt.start (w : World) (m : Nat) : ArrAt w m 8 (w.alloc (.cells #[.int .u8 0, .int .u8 0, .int .u8 0, .int .u8 0, .int .u8 0, .int .u8 0, .int .u8 0, .int .u8 0] 78)) :=
  ⟨⟨List.replicate 8 0, by simp, by simpa [List.replicate_succ, u8v] using heap_alloc_new w (.cells #[.int .u8 0, .int .u8 0, .int .u8 0, .int .u8 0, .int .u8 0, .int .u8 0, .int .u8 0, .int .u8 0] 78), by simp [Pk.be]⟩, (Below.refl _ _).alloc (Nat.le_refl _) _⟩
theorem ArrAt.cells {w wr : World} {m k j : Nat} (h : ArrAt w m k wr) (hj : j < 8) : ∃ d : Nat, wr.cell? ⟨w.heap.size, j, none⟩ = some (.int .u8 (d : Int)) ∧ wr.frozen? ⟨w.heap.size, j, none⟩ = false := by
  obtain ⟨⟨Q, h1, h2, h3⟩, h4⟩ := h
  refine ⟨Q.getD j 0, ?_, by simp [World.frozen?, h2]⟩
  simp only [World.cell?, h2]
  rw [List.getElem?_toArray, map_getElem? (by omega)]
  rfl
theorem ArrAt.next {w wr : World} {m k : Nat} (h : ArrAt w m (k + 1) wr) (hk : k < 8) : ArrAt w m k (wr.setCell ⟨w.heap.size, k, none⟩ (.int .u8 ((m / 256 ^ (7 - k) % 256 : Nat) : Int))) := by
  obtain ⟨⟨Q, h1, h2, h3⟩, h4⟩ := h
  refine ⟨⟨Q.set k (m / 256 ^ (7 - k) % 256), by simpa using h1, ?_, ?_⟩, h4.setCell (p := ⟨w.heap.size, k, none⟩) (Nat.le_refl _) _⟩
  · simp only [World.setCell, Array.getElem?_modify, h2]
    simp only [if_true, Option.map_some]
    congr 2
    simp [List.map_set, u8v]
  · rw [show 8 - k = (7 - k) + 1 from by omega, be_cons, show (7 - k) = 8 - (k + 1) from by omega, ← h3]
    rw [List.drop_eq_getElem_cons (by simp; omega)]
    congr 1
    · simp
    · rw [List.drop_set_of_lt (by omega)]
theorem ArrAt.reads {w wr : World} {m : Nat} (h : ArrAt w m 0 wr) : Reads wr (some ⟨w.heap.size, 0, none⟩) ((Pk.be 8 m).map u8v) := by
  obtain ⟨⟨Q, h1, h2, h3⟩, h4⟩ := h
  rw [List.drop_zero] at h3
  rw [← h3]
  refine .inr ⟨w.heap.size, 0, rfl, fun i u hu => ?_⟩
  simp only [World.cell?, h2, Nat.zero_add]
  rw [List.getElem?_toArray]
  exact hu

set_option maxRecDepth 100000 in
set_option maxHeartbeats 2000000 in
theorem RInt_any {w : World} {a : Option Addr} {c : Nat} {bs : List Nat} {n : Int} (h : OwnR 5 u8v 0 w a c bs) (hl : bs.length ≤ 1000000) :
    Calls Tryz.prog 16 #[.slice a bs.length c, .int .i64 n] w (PutsR a (bs ++ Pk.encI n) w) := by
  have HO := Lib.hid h
  have hu := uN_wrap n
  have hm := Pk.uN_lt n
  clear h
  unfold Pk.encI
  generalize Pk.uN n = m at *
  have HS := Lib.hid (ArrAt.start w m)
  go_enter Tryz.func16, Tryz.ntmps16
  go_wp2_with fail
  go_loopw [5, 7] (fun mv iv wr => ∃ k : Nat, k ≤ 8 ∧ mv = .int .u64 ((m / 256 ^ (8 - k) : Nat) : Int) ∧ iv = .int .i64 ((k : Int) - 1) ∧ Hid (ArrAt w m k wr)) (fun _ iv _ => (intOf iv + 1).toNat)
  case atStart => exact ⟨8, Nat.le_refl _, by simp, by simp, HS⟩
  case round =>
    obtain ⟨k, hk, rfl, rfl, HK⟩ := hrel
    clear HS
    cases k with
    | zero =>
      have hrd := Lib.hid HK.out.reads
      have HOW := Lib.hid (HO.out.kept HK.out.below)
      have HB := Lib.hid HK.out.below
      have HBL : Hid ((Pk.be 8 m).length = 8) := Lib.hid (Pk.be_length _ _)
      clear HK HO
      generalize m / 256 ^ (8 - 0) = v at *
      rw [show ((0 : Nat) : Int) - 1 = -1 from by omega]
      go_wp2_with (at_builtin; refine wpList_append_rowN rfl (.tmp 22) (.tmp 23) 29 rfl 5 (.int .u8 0) 1 Tryz.underlying29 info_u8 rfl u8v u8_one 0 a bs.length c bs rfl HOW.out rfl (some ⟨w.heap.size, 0, none⟩) 8 8 (Pk.be 8 m) rfl HBL.out hrd.out (by unfold maxLen; omega) (by omega) (Nat.zero_le _) ?_; intro a' c' w6 hown hgrw hnew; have HP : Hid (PutsR a (bs ++ Pk.be 8 m) w (.returned (.slice a' (bs.length + 8) c')) w6) := Lib.hid (PutsR.before HB.out ⟨a', c', (by rw [List.length_append, HBL.out]), Lib.hid hown, Lib.hid hgrw, Lib.hid hnew⟩); clear hown hgrw hnew)
      go_ret
      exact HP.out
    | succ k =>
      obtain ⟨d, hcell, hfr⟩ := HK.out.cells (j := k) (by omega)
      have HN := Lib.hid (HK.out.next (by omega))
      have hv : m / 256 ^ (8 - (k + 1)) ≤ m := Nat.div_le_self _ _
      have HD : Hid (m / 256 ^ (8 - (k + 1)) / 256 = m / 256 ^ (8 - k)) := Lib.hid (by rw [Nat.div_div_eq_div_mul, ← Nat.pow_succ]; congr 2; omega)
      have HV7 : Hid (m / 256 ^ (7 - k) = m / 256 ^ (8 - (k + 1))) := Lib.hid (by rw [show 8 - (k + 1) = 7 - k from by omega])
      rw [HV7.out] at HN
      clear HK HV7
      generalize m / 256 ^ (8 - (k + 1)) = v at *
      rw [show ((k + 1 : Nat) : Int) - 1 = (k : Int) from by omega]
      go_wp2_with fail
      go_roundw
      case rel => exact ⟨k, by omega, by rw [← HD.out]; rfl, rfl, HN⟩
      case measure => simp only [intOf]; omega
end Go.Proofs.YtodedlnpokagfaaGreatDoor


/-
  Layer 4: the document's Flag, Bytes, behind others.
-/
set_option linter.unusedVariables false
set_option linter.unusedSimpArgs false
namespace Go.Proofs.YtodedlnpokagfaaGreatDoor
open Go.RowKit Rep

theorem PutsR.then' {a a1 : Option Addr} {bs : List Nat} {w w1 w2 : World} {e : Ending} (hg : w.grownBy w1 (blk a)) (hn : ∀ j, blk a1 = some j → blk a = some j ∨ w.heap.size ≤ j) (h : PutsR a1 bs w1 e w2) : PutsR a bs w e w2 := by
  obtain ⟨a', c', h1, h2, h3, h4⟩ := h
  refine ⟨a', c', h1, h2, Lib.hid ⟨h3.out.os.trans hg.os, h3.out.tape.trans hg.tape, h3.out.output.trans hg.output, Nat.le_trans hg.size h3.out.size, fun k hk hne => ?_⟩, Lib.hid fun j hj => ?_⟩
  · refine (h3.out.block k (Nat.lt_of_lt_of_le hk hg.size) fun e => ?_).trans (hg.block k hk hne)
    rcases hn k e.symm with h | h
    · exact hne h.symm
    · omega
  · rcases h4.out j hj with h | h
    · exact hn j h
    · exact .inr (by have := hg.size; omega)

set_option maxRecDepth 100000 in
set_option maxHeartbeats 800000 in
theorem RFlag_any {w : World} {a : Option Addr} {c : Nat} {bs : List Nat} {b : Bool} (h : OwnR 5 u8v 0 w a c bs) (hl : bs.length ≤ 1000000) :
    Calls Tryz.prog 18 #[.slice a bs.length c, .bool b] w (PutsR a (bs ++ Pk.encF b) w) := by
  have HO : Hid (∀ d : Nat, OwnR 5 u8v 0 (w.alloc (.cells #[.int .u8 (d : Int)] 5)) a c bs) := Lib.hid fun d => h.kept ((Below.refl _ _).alloc (Nat.le_refl _) _)
  have HR : Hid (∀ d : Nat, Reads (w.alloc (.cells #[.int .u8 (d : Int)] 5)) (some ⟨w.heap.size, 0, none⟩) ([d].map u8v)) := Lib.hid fun d => (Row.new (E := 5) w #[.int .u8 (d : Int)]).reads0
  have HB : Hid (∀ d : Nat, Below w.heap.size w (w.alloc (.cells #[.int .u8 (d : Int)] 5))) := Lib.hid fun d => (Below.refl _ _).alloc (Nat.le_refl _) _
  clear h
  cases b
  · have HO := Lib.hid (HO.out 0)
    have HR := Lib.hid (HR.out 0)
    have HB := Lib.hid (HB.out 0)
    go_enter Tryz.func18, Tryz.ntmps18
    go_wp2_with (at_builtin; refine wpList_append_rowN rfl (.tmp 9) (.tmp 10) 29 rfl 5 (.int .u8 0) 1 Tryz.underlying29 info_u8 rfl u8v u8_one 0 a bs.length c bs rfl HO.out rfl (some ⟨w.heap.size, 0, none⟩) 1 1 [0] rfl rfl HR.out (by unfold maxLen; omega) (by omega) (Nat.zero_le _) ?_; intro a' c' w6 hown hgrw hnew; have HP : Hid (PutsR a (bs ++ Pk.encF false) w (.returned (.slice a' (bs.length + 1) c')) w6) := Lib.hid (PutsR.before HB.out ⟨a', c', (by simp [Pk.encF]), Lib.hid hown, Lib.hid hgrw, Lib.hid hnew⟩); clear hown hgrw hnew)
    go_ret
    exact HP.out
  · have HO := Lib.hid (HO.out 1)
    have HR := Lib.hid (HR.out 1)
    have HB := Lib.hid (HB.out 1)
    go_enter Tryz.func18, Tryz.ntmps18
    go_wp2_with (at_builtin; refine wpList_append_rowN rfl (.tmp 6) (.tmp 7) 29 rfl 5 (.int .u8 0) 1 Tryz.underlying29 info_u8 rfl u8v u8_one 0 a bs.length c bs rfl HO.out rfl (some ⟨w.heap.size, 0, none⟩) 1 1 [1] rfl rfl HR.out (by unfold maxLen; omega) (by omega) (Nat.zero_le _) ?_; intro a' c' w6 hown hgrw hnew; have HP : Hid (PutsR a (bs ++ Pk.encF true) w (.returned (.slice a' (bs.length + 1) c')) w6) := Lib.hid (PutsR.before HB.out ⟨a', c', (by simp [Pk.encF]), Lib.hid hown, Lib.hid hgrw, Lib.hid hnew⟩); clear hown hgrw hnew)
    go_ret
    exact HP.out

set_option maxRecDepth 100000 in
set_option maxHeartbeats 800000 in
theorem RBytes_any {w : World} {a src : Option Addr} {c c2 : Nat} {bs ys : List Nat} (h : OwnR 5 u8v 0 w a c bs) (hr : Reads w src (ys.map u8v)) (hn : ys = [] ∨ ∀ g, blk src = some g → blk a ≠ some g) (hl : bs.length + ys.length ≤ 900000) (hc : ys.length ≤ c2) (hcm : c2 ≤ 9223372036854775807) :
    Calls Tryz.prog 20 #[.slice a bs.length c, .slice src ys.length c2] w (PutsR a (bs ++ Pk.encB ys) w) := by
  have HI := Lib.hid (RInt_any (n := (ys.length : Int)) h (by omega))
  have HR : Hid (∀ W, w.grownBy W (blk a) → Reads W src (ys.map u8v)) := Lib.hid fun W hg => by
    rcases hn with rfl | hn
    · exact .inl rfl
    · exact hr.grown hg (.inr fun g off e e' => by subst e; exact hn g rfl e'.symm)
  have HE : Hid ((bs ++ Pk.encI (ys.length : Int)) ++ ys = bs ++ Pk.encB ys) := Lib.hid (by unfold Pk.encB; rw [List.append_assoc])
  have HL : Hid ((bs ++ Pk.encI (ys.length : Int)).length + ys.length ≤ 1000000) := Lib.hid (by rw [List.length_append, Pk.encI_length]; omega)
  clear h hr hn
  rw [← HE.out]
  generalize bs ++ Pk.encI (ys.length : Int) = b1 at *
  have hl1 := HL.out
  go_enter Tryz.func20, Tryz.ntmps20
  go_wp2_with fail
  refine HI.out.mono ?_
  rintro e w1 ⟨a1, c1, rfl, M1, M2, M3⟩
  have HRR := Lib.hid (HR.out _ M2.out)
  clear HI HR
  go_wp2_with (at_builtin; refine wpList_append_rowN rfl (.tmp 8) (.tmp 9) 29 rfl 5 (.int .u8 0) 1 Tryz.underlying29 info_u8 rfl u8v u8_one 0 a1 b1.length c1 b1 rfl M1.out rfl src ys.length c2 ys rfl rfl HRR.out (by unfold maxLen; omega) (by omega) (Nat.zero_le _) ?_; intro a' c' w6 hown hgrw hnew; have HP : Hid (PutsR a (b1 ++ ys) w (.returned (.slice a' (b1.length + ys.length) c')) w6) := Lib.hid (PutsR.then' M2.out M3.out ⟨a', c', (by rw [List.length_append]), Lib.hid hown, Lib.hid hgrw, Lib.hid hnew⟩); clear hown hgrw hnew)
  go_ret
  exact HP.out
end Go.Proofs.YtodedlnpokagfaaGreatDoor


/-
  Layer 4: the document's limbs, behind others.
-/
set_option linter.unusedVariables false
set_option linter.unusedSimpArgs false
namespace Go.Proofs.YtodedlnpokagfaaGreatDoor
open Go.RowKit Rep

theorem be_four (x : Nat) : Pk.be 4 x = [x / 16777216 % 256, x / 65536 % 256, x / 256 % 256, x % 256] := by
  simp [Pk.be, Nat.div_div_eq_div_mul]
/-- Behind j rounds. -/
structure RlAt (w : World) (a : Option Addr) (bs : List Nat) (a' : Option Addr) (c' : Nat) (wr : World) : Prop where
  own : OwnR 5 u8v 0 wr a' c' bs
  grown : w.grownBy wr (blk a)
  new : ∀ j, blk a' = some j → blk a = some j ∨ w.heap.size ≤ j
theorem RlAt.next {w wr w6 : World} {a a' a2 : Option Addr} {c' c3 : Nat} {bs ys : List Nat} {o : Obj} (h : RlAt w a bs a' c' wr) (hown : OwnR 5 u8v 0 w6 a2 c3 (bs ++ ys)) (hg : (wr.drew.alloc o).grownBy w6 (blk a')) (hn : ∀ j, blk a2 = some j → blk a' = some j ∨ (wr.drew.alloc o).heap.size ≤ j) : RlAt w a (bs ++ ys) a2 c3 w6 := by
  have hb : Below wr.heap.size wr (wr.drew.alloc o) := (below_drew wr).trans ((Below.refl wr.drew.heap.size wr.drew).alloc (Nat.le_refl _) o)
  obtain ⟨a3, c4, e1, h1, h2, h3⟩ := PutsR.then' h.grown h.new (PutsR.before hb ⟨a2, c3, rfl, Lib.hid hown, Lib.hid hg, Lib.hid hn⟩)
  cases e1
  exact ⟨h1.out, h2.out, h3.out⟩
/-- What the bytes are reckoned of, each number with a letter. -/
theorem limb_steps {x : Nat} (hx : x < 4294967296) : ∃ q0 q1 r1 q2 r2 r3 : Nat,
    (IntKind.u32.wrap ((x : Int) / 16777216) = (q0 : Int) ∧ IntKind.u8.wrap (q0 : Int) = (q0 : Int)) ∧ (IntKind.u32.wrap ((x : Int) / 65536) = (q1 : Int) ∧ (q1 : Int).tmod 256 = (r1 : Int) ∧ IntKind.u8.wrap (r1 : Int) = (r1 : Int)) ∧
    (IntKind.u32.wrap ((x : Int) / 256) = (q2 : Int) ∧ (q2 : Int).tmod 256 = (r2 : Int) ∧ IntKind.u8.wrap (r2 : Int) = (r2 : Int)) ∧ ((x : Int).tmod 256 = (r3 : Int) ∧ IntKind.u8.wrap (r3 : Int) = (r3 : Int)) ∧ [q0, r1, r2, r3] = Pk.be 4 x := by
  refine ⟨x / 16777216, x / 65536, x / 65536 % 256, x / 256, x / 256 % 256, x % 256, ⟨?_, ?_⟩, ⟨?_, ?_, ?_⟩, ⟨?_, ?_, ?_⟩, ⟨?_, ?_⟩, ?_⟩
  · rw [IntWalk.u32_in _ (by omega)]; rfl
  · rw [IntWalk.u8_in _ (by omega)]
  · rw [IntWalk.u32_in _ (by omega)]; rfl
  · rw [Int.tmod_eq_emod_of_nonneg (by omega)]; rfl
  · rw [IntWalk.u8_in _ (by omega)]
  · rw [IntWalk.u32_in _ (by omega)]; rfl
  · rw [Int.tmod_eq_emod_of_nonneg (by omega)]; rfl
  · rw [IntWalk.u8_in _ (by omega)]
  · rw [Int.tmod_eq_emod_of_nonneg (by omega)]; rfl
  · rw [IntWalk.u8_in _ (by omega)]
  · rw [be_four]
    have : x / 16777216 < 256 := by omega
    rw [Nat.mod_eq_of_lt this]

set_option maxRecDepth 100000 in
set_option maxHeartbeats 8000000 in
theorem Rlimbs_any {w : World} {a b : Option Addr} {c c2 : Nat} {bs xs : List Nat} (h : OwnR 5 u8v 0 w a c bs) (hr : Reads w b (xs.map u32v)) (hn : xs = [] ∨ ∀ g, blk b = some g → blk a ≠ some g) (hx : Lim xs) (hc : xs.length ≤ c2) (hcm : c2 ≤ maxLen) (hl : bs.length + 8 + 4 * xs.length ≤ 900000) :
    Calls Tryz.prog 47 #[.slice a bs.length c, .slice b xs.length c2] w (PutsR a (bs ++ Pk.encL xs) w) := by
  have HI := Lib.hid (RInt_any (n := (xs.length : Int)) h (by omega))
  have HR : Hid (∀ W, w.grownBy W (blk a) → Reads W b (xs.map u32v)) := Lib.hid fun W hg => by
    rcases hn with rfl | hn
    · exact .inl rfl
    · exact hr.grown hg (.inr fun g off e e' => by subst e; exact hn g rfl e'.symm)
  have HE : Hid ((bs ++ Pk.encI (xs.length : Int)) ++ xs.flatMap (Pk.be 4) = bs ++ Pk.encL xs) := Lib.hid (by unfold Pk.encL; rw [List.append_assoc])
  have HL : Hid ((bs ++ Pk.encI (xs.length : Int)).length + 4 * xs.length ≤ 900000) := Lib.hid (by rw [List.length_append, Pk.encI_length]; omega)
  have HX := Lib.hid hx
  have HGN : Hid (xs = [] ∨ ∀ g, blk b = some g → blk a ≠ some g ∧ g < w.heap.size) := Lib.hid (by
    rcases hr with h0 | ⟨g, off, rfl, h0⟩
    · exact .inl (by simpa using h0)
    · by_cases e : xs = []
      · exact .inl e
      · refine .inr fun g' e' => ?_
        cases e'
        rcases hn with hn | hn
        · exact absurd hn e
        · exact ⟨hn _ rfl, World.block_lt_of_cell? _ _ (h0 0 _ (map_getElem? (xs := xs) (f := u32v) (List.length_pos_iff.2 e)))⟩)
  unfold maxLen at hcm
  clear h hr hn hx
  rw [← HE.out]
  generalize bs ++ Pk.encI (xs.length : Int) = b1 at *
  go_enter Tryz.func47, Tryz.ntmps47
  go_wp2_with fail
  refine HI.out.mono ?_
  rintro e w1 ⟨a1, c1, rfl, M1, M2, M3⟩
  have H0 : Hid (RlAt w a b1 a1 c1 w1) := Lib.hid ⟨M1.out, M2.out, M3.out⟩
  clear HI M1 M2 M3
  go_wp2_with fail
  go_loopw [0, 5] (fun lv iv wr => ∃ (j : Nat) (a' : Option Addr) (c' : Nat) (cs : List Nat), j ≤ xs.length ∧ lv = .slice a' cs.length c' ∧ iv = .int .i64 j ∧ Hid (cs = b1 ++ (xs.take j).flatMap (Pk.be 4)) ∧ Hid (RlAt w a cs a' c' wr)) (fun _ iv _ => xs.length - (intOf iv).toNat)
  case atStart => exact ⟨0, a1, c1, b1, Nat.zero_le _, rfl, rfl, Lib.hid (by simp), H0⟩
  case round =>
    obtain ⟨j, a', c', cs, hj, rfl, rfl, HCS, HJ⟩ := hrel
    clear H0
    by_cases hlt : j < xs.length
    · have hrd := HR.out _ HJ.out.grown
      obtain ⟨g, off, rfl, hg, hcell⟩ := hrd.open' (by rw [List.length_map]; omega)
      have hck := hcell j _ (map_getElem? (xs := xs) hlt)
      unfold u32v at hck
      have hxj : xs.getD j 0 < 4294967296 := HX.out.getD j (by omega)
      obtain ⟨q0, q1, r1, q2, r2, r3, ⟨e0, e1⟩, ⟨e2, e3, e4⟩, ⟨e5, e6, e7⟩, ⟨e8, e9⟩, hbe⟩ := limb_steps hxj
      have HBE : Hid (cs ++ [q0, r1, r2, r3] = b1 ++ (xs.take (j + 1)).flatMap (Pk.be 4)) := Lib.hid (by rw [flat_take hlt, hbe, HCS.out, List.append_assoc])
      have HLC : Hid (cs.length ≤ 900000) := Lib.hid (by
        have := HL.out
        have h2 := flat_len 4 (xs.take j)
        rw [List.length_take] at h2
        rw [HCS.out, List.length_append, h2]
        have h3 : 4 * min j xs.length ≤ 4 * xs.length := Nat.mul_le_mul_left _ (by omega)
        omega)
      have HO1 : Hid (OwnR 5 u8v 0 (wr.drew.alloc (.cells #[.int .u8 (q0 : Int), .int .u8 (r1 : Int), .int .u8 (r2 : Int), .int .u8 (r3 : Int)] 5)) a' c' cs) := Lib.hid ((HJ.out.own.kept (below_drew wr)).kept ((Below.refl _ _).alloc (Nat.le_refl _) _))
      have HR4 : Hid (Reads (wr.drew.alloc (.cells #[.int .u8 (q0 : Int), .int .u8 (r1 : Int), .int .u8 (r2 : Int), .int .u8 (r3 : Int)] 5)) (some ⟨wr.drew.heap.size, 0, none⟩) ([q0, r1, r2, r3].map u8v)) := Lib.hid (Row.new (E := 5) wr.drew #[.int .u8 (q0 : Int), .int .u8 (r1 : Int), .int .u8 (r2 : Int), .int .u8 (r3 : Int)]).reads0
      have hkp0 : (wr.drew.alloc (.cells #[.int .u8 (q0 : Int), .int .u8 (r1 : Int), .int .u8 (r2 : Int), .int .u8 (r3 : Int)] 5)).cell? ⟨g, off + j, none⟩ = some (.int .u32 ((xs.getD j 0 : Nat) : Int)) := by
        rw [((Below.refl wr.drew.heap.size wr.drew).alloc (Nat.le_refl _) _).cell (p := ⟨g, off + j, none⟩) hg]; exact hck
      have HKP := Lib.hid hkp0
      have HGB : Hid (∀ w6, (wr.drew.alloc (.cells #[.int .u8 (q0 : Int), .int .u8 (r1 : Int), .int .u8 (r2 : Int), .int .u8 (r3 : Int)] 5)).grownBy w6 (blk a') → w6.cell? ⟨g, off + j, none⟩ = some (.int .u32 ((xs.getD j 0 : Nat) : Int))) := Lib.hid fun w6 hg6 => by
        refine hg6.cell hkp0 fun e => ?_
        rcases HGN.out with h | h
        · rw [h] at hlt; simp at hlt
        · obtain ⟨h1, h2⟩ := h g rfl
          rcases HJ.out.new g e.symm with h3 | h3
          · exact h1 h3
          · omega
      clear hrd hcell hbe HCS hkp0
      generalize xs.getD j 0 = x at *
      go_wp2_with fail
      refine wp_region_held_drew (S := (fun w' => w'.cell? ⟨g, off + j, none⟩ = some (.int .u32 (x : Int)))) (by kernel_rfl) ?_ (fun hHeld => ?_)
      · exact hck
      refine wpAnyH_take (i := 0) (v := ?_) (by rfl) (by kernel_rfl) (by kernel_rfl) (by kernel_rfl) (by exact fun _ _ _ h => h) (Or.inl ⟨by rfl, ?_⟩) hHeld ?_
      rotate_left 1
      · intro w' hSw
        go_simp
        try with_reducible rfl
      try simp only [Act.put, List.setIfInBounds_toArray, List.set_cons_zero, List.set_cons_succ, List.getElem_toArray, List.getElem_cons_zero, List.getElem_cons_succ]
      refine wpAnyH_take (i := 1) (v := ?_) (by rfl) (by kernel_rfl) (by kernel_rfl) (by kernel_rfl) (by exact fun _ _ _ h => h) (Or.inl ⟨by rfl, ?_⟩) hHeld ?_
      rotate_left 1
      · intro w' hSw
        go_simp
        try with_reducible rfl
      try simp only [Act.put, List.setIfInBounds_toArray, List.set_cons_zero, List.set_cons_succ, List.getElem_toArray, List.getElem_cons_zero, List.getElem_cons_succ]
      refine wpAnyH_take (i := 2) (v := ?_) (by rfl) (by kernel_rfl) (by kernel_rfl) (by kernel_rfl) (by exact fun _ _ _ h => h) (Or.inl ⟨by rfl, ?_⟩) hHeld ?_
      rotate_left 1
      · intro w' hSw
        go_simp
        try with_reducible rfl
      try simp only [Act.put, List.setIfInBounds_toArray, List.set_cons_zero, List.set_cons_succ, List.getElem_toArray, List.getElem_cons_zero, List.getElem_cons_succ]
      refine wpAnyH_take (i := 3) (v := ?_) (by rfl) (by kernel_rfl) (by kernel_rfl) (by kernel_rfl) (by exact fun _ _ _ h => h) (Or.inl ⟨by rfl, ?_⟩) hHeld ?_
      rotate_left 1
      · intro w' hSw
        go_simp
        try with_reducible rfl
      try simp only [Act.put, List.setIfInBounds_toArray, List.set_cons_zero, List.set_cons_succ, List.getElem_toArray, List.getElem_cons_zero, List.getElem_cons_succ]
      refine wpAnyH_take (i := 4) (v := ?_) (by rfl) (by kernel_rfl) (by kernel_rfl) (by kernel_rfl) (by exact fun _ _ _ h => h) (Or.inl ⟨by rfl, ?_⟩) hHeld ?_
      rotate_left 1
      · intro w' hSw
        go_simp
        try with_reducible rfl
      try simp only [Act.put, List.setIfInBounds_toArray, List.set_cons_zero, List.set_cons_succ, List.getElem_toArray, List.getElem_cons_zero, List.getElem_cons_succ]
      refine wpAnyH_take (i := 5) (v := ?_) (by rfl) (by kernel_rfl) (by kernel_rfl) (by kernel_rfl) (by exact fun _ _ _ h => h) (Or.inl ⟨by rfl, ?_⟩) hHeld ?_
      rotate_left 1
      · intro w' hSw
        go_simp
        try with_reducible rfl
      try simp only [Act.put, List.setIfInBounds_toArray, List.set_cons_zero, List.set_cons_succ, List.getElem_toArray, List.getElem_cons_zero, List.getElem_cons_succ]
      refine wpAnyH_take (i := 6) (v := ?_) (by rfl) (by kernel_rfl) (by kernel_rfl) (by kernel_rfl) (by exact fun _ _ _ h => h) (Or.inl ⟨by rfl, ?_⟩) hHeld ?_
      rotate_left 1
      · intro w' hSw
        go_simp
        try with_reducible rfl
      try simp only [Act.put, List.setIfInBounds_toArray, List.set_cons_zero, List.set_cons_succ, List.getElem_toArray, List.getElem_cons_zero, List.getElem_cons_succ]
      refine wpAnyH_take (i := 7) (v := ?_) (by rfl) (by kernel_rfl) (by kernel_rfl) (by kernel_rfl) (by exact fun _ _ _ h => h) (Or.inl ⟨by rfl, ?_⟩) hHeld ?_
      rotate_left 1
      · intro w' hSw
        go_simp
        try with_reducible rfl
      try simp only [Act.put, List.setIfInBounds_toArray, List.set_cons_zero, List.set_cons_succ, List.getElem_toArray, List.getElem_cons_zero, List.getElem_cons_succ]
      refine wpAnyH_take (i := 8) (v := ?_) (by rfl) (by kernel_rfl) (by kernel_rfl) (by kernel_rfl) (by exact fun _ _ _ h => h) (Or.inl ⟨by rfl, ?_⟩) hHeld ?_
      rotate_left 1
      · intro w' hSw
        go_simp
        try with_reducible rfl
      try simp only [Act.put, List.setIfInBounds_toArray, List.set_cons_zero, List.set_cons_succ, List.getElem_toArray, List.getElem_cons_zero, List.getElem_cons_succ]
      refine wpAnyH_take (i := 9) (v := ?_) (by rfl) (by kernel_rfl) (by kernel_rfl) (by kernel_rfl) (by exact fun _ _ _ h => h) (Or.inl ⟨by rfl, ?_⟩) hHeld ?_
      rotate_left 1
      · intro w' hSw
        go_simp
        try with_reducible rfl
      try simp only [Act.put, List.setIfInBounds_toArray, List.set_cons_zero, List.set_cons_succ, List.getElem_toArray, List.getElem_cons_zero, List.getElem_cons_succ]
      refine wpAnyH_take (i := 10) (v := ?_) (by rfl) (by kernel_rfl) (by kernel_rfl) (by kernel_rfl) (by exact fun _ _ _ h => h) (Or.inl ⟨by rfl, ?_⟩) hHeld ?_
      rotate_left 1
      · intro w' hSw
        go_simp
        try with_reducible rfl
      try simp only [Act.put, List.setIfInBounds_toArray, List.set_cons_zero, List.set_cons_succ, List.getElem_toArray, List.getElem_cons_zero, List.getElem_cons_succ]
      refine wpAnyH_take (i := 11) (v := ?_) (by rfl) (by kernel_rfl) (by kernel_rfl) (by kernel_rfl) (by exact fun _ _ _ h => h) (Or.inl ⟨by rfl, ?_⟩) hHeld ?_
      rotate_left 1
      · intro w' hSw
        go_simp
        try with_reducible rfl
      try simp only [Act.put, List.setIfInBounds_toArray, List.set_cons_zero, List.set_cons_succ, List.getElem_toArray, List.getElem_cons_zero, List.getElem_cons_succ]
      refine wpAnyH_take (i := 12) (v := ?_) (by rfl) (by kernel_rfl) (by kernel_rfl) (by kernel_rfl) (by exact fun _ _ _ h => h) (Or.inl ⟨by rfl, ?_⟩) hHeld ?_
      rotate_left 1
      · intro w' hSw
        go_simp
        try with_reducible rfl
      try simp only [Act.put, List.setIfInBounds_toArray, List.set_cons_zero, List.set_cons_succ, List.getElem_toArray, List.getElem_cons_zero, List.getElem_cons_succ]
      refine wpAnyH_take (i := 13) (v := ?_) (by rfl) (by kernel_rfl) (by kernel_rfl) (by kernel_rfl) (by exact fun _ _ _ h => h) (Or.inl ⟨by rfl, ?_⟩) hHeld ?_
      rotate_left 1
      · intro w' hSw
        go_simp
        try with_reducible rfl
      try simp only [Act.put, List.setIfInBounds_toArray, List.set_cons_zero, List.set_cons_succ, List.getElem_toArray, List.getElem_cons_zero, List.getElem_cons_succ]
      refine wpAnyH_take (i := 14) (v := ?_) (by rfl) (by kernel_rfl) (by kernel_rfl) (by kernel_rfl) (by exact fun _ _ _ h => h) (Or.inl ⟨by rfl, ?_⟩) hHeld ?_
      rotate_left 1
      · intro w' hSw
        go_simp
        try with_reducible rfl
      try simp only [Act.put, List.setIfInBounds_toArray, List.set_cons_zero, List.set_cons_succ, List.getElem_toArray, List.getElem_cons_zero, List.getElem_cons_succ]
      refine wpAnyH_take (i := 15) (v := ?_) (by rfl) (by kernel_rfl) (by kernel_rfl) (by kernel_rfl) (by exact fun _ _ _ h => h) (Or.inl ⟨by rfl, ?_⟩) hHeld ?_
      rotate_left 1
      · intro w' hSw
        go_simp
        try with_reducible rfl
      try simp only [Act.put, List.setIfInBounds_toArray, List.set_cons_zero, List.set_cons_succ, List.getElem_toArray, List.getElem_cons_zero, List.getElem_cons_succ]
      refine wpAnyH_take (i := 16) (v := ?_) (by rfl) (by kernel_rfl) (by kernel_rfl) (by kernel_rfl) (by exact fun _ _ _ h => h) (Or.inl ⟨by rfl, ?_⟩) hHeld ?_
      rotate_left 1
      · intro w' hSw
        go_simp
        try with_reducible rfl
      try simp only [Act.put, List.setIfInBounds_toArray, List.set_cons_zero, List.set_cons_succ, List.getElem_toArray, List.getElem_cons_zero, List.getElem_cons_succ]
      refine wpAnyH_take (i := 17) (v := ?_) (by rfl) (by kernel_rfl) (by kernel_rfl) (by kernel_rfl) (by exact fun _ _ _ h => h) (Or.inl ⟨by rfl, ?_⟩) hHeld ?_
      rotate_left 1
      · intro w' hSw
        go_simp
        try with_reducible rfl
      try simp only [Act.put, List.setIfInBounds_toArray, List.set_cons_zero, List.set_cons_succ, List.getElem_toArray, List.getElem_cons_zero, List.getElem_cons_succ]
      refine wpAnyH_take (i := 18) (v := ?_) (by rfl) (by kernel_rfl) (by kernel_rfl) (by kernel_rfl) (by exact fun _ _ _ h => h) (Or.inl ⟨by rfl, ?_⟩) hHeld ?_
      rotate_left 1
      · intro w' hSw
        go_simp
        try with_reducible rfl
      try simp only [Act.put, List.setIfInBounds_toArray, List.set_cons_zero, List.set_cons_succ, List.getElem_toArray, List.getElem_cons_zero, List.getElem_cons_succ]
      refine wpAnyH_take (i := 19) (v := ?_) (by rfl) (by kernel_rfl) (by kernel_rfl) (by kernel_rfl) (by exact fun _ _ _ h => h) (Or.inl ⟨by rfl, ?_⟩) hHeld ?_
      rotate_left 1
      · intro w' hSw
        go_simp
        try with_reducible rfl
      try simp only [Act.put, List.setIfInBounds_toArray, List.set_cons_zero, List.set_cons_succ, List.getElem_toArray, List.getElem_cons_zero, List.getElem_cons_succ]
      refine wpAnyH_take (i := 20) (v := ?_) (by rfl) (by kernel_rfl) (by kernel_rfl) (by kernel_rfl) (by exact fun _ _ _ h => h) (Or.inl ⟨by rfl, ?_⟩) hHeld ?_
      rotate_left 1
      · intro w' hSw
        go_simp
        try with_reducible rfl
      try simp only [Act.put, List.setIfInBounds_toArray, List.set_cons_zero, List.set_cons_succ, List.getElem_toArray, List.getElem_cons_zero, List.getElem_cons_succ]
      refine wpAnyH_take (i := 21) (v := ?_) (by rfl) (by kernel_rfl) (by kernel_rfl) (by kernel_rfl) (by exact fun _ _ _ h => h) (Or.inl ⟨by rfl, ?_⟩) hHeld ?_
      rotate_left 1
      · intro w' hSw
        go_simp
        try with_reducible rfl
      try simp only [Act.put, List.setIfInBounds_toArray, List.set_cons_zero, List.set_cons_succ, List.getElem_toArray, List.getElem_cons_zero, List.getElem_cons_succ]
      refine wpAnyH_take (i := 22) (v := ?_) (by rfl) (by kernel_rfl) (by kernel_rfl) (by kernel_rfl) (by exact fun _ _ _ h => h) (Or.inl ⟨by rfl, ?_⟩) hHeld ?_
      rotate_left 1
      · intro w' hSw
        go_simp
        try with_reducible rfl
      try simp only [Act.put, List.setIfInBounds_toArray, List.set_cons_zero, List.set_cons_succ, List.getElem_toArray, List.getElem_cons_zero, List.getElem_cons_succ]
      refine wpAnyH_take (i := 23) (v := ?_) (by rfl) (by kernel_rfl) (by kernel_rfl) (by kernel_rfl) (by exact fun _ _ _ h => h) (Or.inl ⟨by rfl, ?_⟩) hHeld ?_
      rotate_left 1
      · intro w' hSw
        go_simp
        try with_reducible rfl
      try simp only [Act.put, List.setIfInBounds_toArray, List.set_cons_zero, List.set_cons_succ, List.getElem_toArray, List.getElem_cons_zero, List.getElem_cons_succ]
      refine wpAnyH_take (i := 24) (v := ?_) (by rfl) (by kernel_rfl) (by kernel_rfl) (by kernel_rfl) (by exact fun _ _ _ h => h) (Or.inl ⟨by rfl, ?_⟩) hHeld ?_
      rotate_left 1
      · intro w' hSw
        go_simp
        try with_reducible rfl
      try simp only [Act.put, List.setIfInBounds_toArray, List.set_cons_zero, List.set_cons_succ, List.getElem_toArray, List.getElem_cons_zero, List.getElem_cons_succ]
      refine wpAnyH_take (i := 25) (v := ?_) (by rfl) (by kernel_rfl) (by kernel_rfl) (by kernel_rfl) (by exact fun _ _ _ h => h) (Or.inl ⟨by rfl, ?_⟩) hHeld ?_
      rotate_left 1
      · intro w' hSw
        go_simp
        try with_reducible rfl
      try simp only [Act.put, List.setIfInBounds_toArray, List.set_cons_zero, List.set_cons_succ, List.getElem_toArray, List.getElem_cons_zero, List.getElem_cons_succ]
      refine wpAnyH_take (i := 26) (v := ?_) (by rfl) (by kernel_rfl) (by kernel_rfl) (by kernel_rfl) (by exact fun _ _ _ h => h) (Or.inl ⟨by rfl, ?_⟩) hHeld ?_
      rotate_left 1
      · intro w' hSw
        go_simp
        try with_reducible rfl
      try simp only [Act.put, List.setIfInBounds_toArray, List.set_cons_zero, List.set_cons_succ, List.getElem_toArray, List.getElem_cons_zero, List.getElem_cons_succ]
      refine wpAnyH_ready (rs := [27]) (by kernel_rfl) (by simp) ?_
      refine AllReadyH.cons (by rfl) (fun K hK => ?_) AllReadyH.nil
      go_simp
      refine hK.out _ _ ?_ (fun hHeld => ?_)
      · exact HKP.out
      clear hK K
      try simp only [Act.put, List.setIfInBounds_toArray, List.set_cons_zero, List.set_cons_succ, List.getElem_toArray, List.getElem_cons_zero, List.getElem_cons_succ]
      refine wpAnyH_ready (rs := [28]) (by kernel_rfl) (by simp) ?_
      refine AllReadyH.cons (by rfl) (fun K hK => ?_) AllReadyH.nil
      refine step_append_row rfl (.tmp 16) (.tmp 43) 29 rfl 5 (.int .u8 0) 1 Tryz.underlying29 info_u8 rfl u8v u8_one 0 a' cs.length c' cs rfl HO1.out rfl (some ⟨wr.drew.heap.size, 0, none⟩) 4 4 [q0, r1, r2, r3] rfl rfl HR4.out (by have := HLC.out; unfold maxLen; omega) (by have := HLC.out; omega) (Nat.zero_le _) ?_
      intro a2 c3 w6 hown hgrw hnew
      refine hK.out _ _ ?_ (fun hHeld => ?_)
      · exact HGB.out _ hgrw
      clear hK K
      try simp only [Act.put, List.setIfInBounds_toArray, List.set_cons_zero, List.set_cons_succ, List.getElem_toArray, List.getElem_cons_zero, List.getElem_cons_succ]
      refine wpAnyH_take (i := 29) (v := ?_) (by rfl) (by kernel_rfl) (by kernel_rfl) (by kernel_rfl) (by exact fun _ _ _ h => h) (Or.inl ⟨by rfl, ?_⟩) hHeld ?_
      rotate_left 1
      · intro w' hSw
        go_simp
        try with_reducible rfl
      try simp only [Act.put, List.setIfInBounds_toArray, List.set_cons_zero, List.set_cons_succ, List.getElem_toArray, List.getElem_cons_zero, List.getElem_cons_succ]
      refine wpAnyH_done (by kernel_rfl) ?_ _
      clear hHeld
      have HX2 := Lib.hid (HJ.out.next hown hgrw hnew)
      clear hown hgrw hnew HJ HO1 HR4 HKP HGB hck
      go_wp2_with fail
      go_roundw
      case rel => exact ⟨j + 1, a2, c3, cs ++ [q0, r1, r2, r3], by omega, by simp, by go_num, HBE, HX2⟩
      case measure => simp [intOf]; omega
    · obtain rfl : j = xs.length := by omega
      have HC2 : Hid (cs = b1 ++ xs.flatMap (Pk.be 4)) := Lib.hid (by have := HCS.out; rwa [List.take_length] at this)
      clear HCS
      go_wp2_with fail
      go_ret
      rw [← HC2.out]
      exact ⟨a', c', rfl, Lib.hid HJ.out.own, Lib.hid HJ.out.grown, Lib.hid HJ.out.new⟩
end Go.Proofs.YtodedlnpokagfaaGreatDoor


/-
  Layer 4: the document's Ratio and Delta, behind others.
-/
set_option linter.unusedVariables false
set_option linter.unusedSimpArgs false
namespace Go.Proofs.YtodedlnpokagfaaGreatDoor
open Go.RowKit Rep

/-- Limbs that the document puts. -/
structure LimbsR (w : World) (a b : Option Addr) (c : Nat) (xs : List Nat) : Prop where
  reads : Reads w b (xs.map u32v)
  apart : xs = [] ∨ ∀ g, blk b = some g → blk a ≠ some g ∧ g < w.heap.size
  lim : Lim xs
  le : xs.length ≤ c
  cap : c ≤ maxLen
  len : xs.length ≤ 1000
theorem LimbsR.grown {w W : World} {a a' b : Option Addr} {c c' : Nat} {bs xs : List Nat} (h : LimbsR w a b c xs) (k : RlAt w a bs a' c' W) : LimbsR W a' b c xs := by
  refine ⟨?_, ?_, h.lim, h.le, h.cap, h.len⟩
  · rcases h.apart with h1 | h1
    · rw [h1]; exact .inl rfl
    · exact h.reads.grown k.grown (.inr fun g off e e' => by subst e; exact (h1 g rfl).1 e'.symm)
  · rcases h.apart with h1 | h1
    · exact .inl h1
    · refine .inr fun g e => ⟨fun e2 => ?_, by have := (h1 g e).2; have := k.grown.size; omega⟩
      rcases k.new g e2 with h2 | h2
      · exact (h1 g e).1 h2
      · have := (h1 g e).2; omega
theorem LimbsR.kept {w W : World} {a b : Option Addr} {c : Nat} {xs : List Nat} (h : LimbsR w a b c xs) (hb : Below w.heap.size w W) : LimbsR W a b c xs :=
  ⟨h.reads.kept hb, h.apart.imp id fun h1 g e => ⟨(h1 g e).1, by have := (h1 g e).2; have := hb.size; omega⟩, h.lim, h.le, h.cap, h.len⟩
def PutsL (w : World) (a : Option Addr) (bs : List Nat) (e : Ending) (W' : World) : Prop := ∃ a' c', e = .returned (.slice a' bs.length c') ∧ Hid (RlAt w a bs a' c' W')
theorem RlAt.start {w : World} {a : Option Addr} {c : Nat} {bs : List Nat} (h : OwnR 5 u8v 0 w a c bs) : RlAt w a bs a c w := ⟨h, grown_refl _ _, fun _ hj => .inl hj⟩
theorem RlAt.kept {w W W' : World} {a a' : Option Addr} {c' : Nat} {bs : List Nat} (h : RlAt w a bs a' c' W) (hb : Below W.heap.size W W') : RlAt w a bs a' c' W' := ⟨h.own.kept hb, grownBy_trans_new h.grown (grown_of_below hb _), h.new⟩
theorem RlAt.puts {w W W' : World} {a a' : Option Addr} {c' : Nat} {bs cs : List Nat} {e : Ending} (h : RlAt w a bs a' c' W) (k : PutsR a' cs W e W') : PutsL w a cs e W' := by
  obtain ⟨a3, c4, e1, h1, h2, h3⟩ := PutsR.then' h.grown h.new k
  exact ⟨a3, c4, e1, Lib.hid ⟨h1.out, h2.out, h3.out⟩⟩
theorem Rlimbs_at {w W : World} {a a' b : Option Addr} {c' c2 : Nat} {bs xs : List Nat} (h : RlAt w a bs a' c' W) (hx : LimbsR w a b c2 xs) (hl : bs.length ≤ 800000) :
    Calls Tryz.prog 47 #[.slice a' bs.length c', .slice b xs.length c2] W (PutsL w a (bs ++ Pk.encL xs)) := by
  have hx' := hx.grown h
  have := hx.len
  exact (Rlimbs_any h.own hx'.reads (hx'.apart.imp id fun h1 g e => (h1 g e).1) hx.lim hx.le hx.cap (by omega)).mono fun e W' hp => h.puts hp
theorem RFlag_at {w W : World} {a a' : Option Addr} {c' : Nat} {bs : List Nat} {s : Bool} (h : RlAt w a bs a' c' W) (hl : bs.length ≤ 800000) :
    Calls Tryz.prog 18 #[.slice a' bs.length c', .bool s] W (PutsL w a (bs ++ Pk.encF s)) := (RFlag_any h.own (by omega)).mono fun e W' hp => h.puts hp
theorem PutsL.puts {w W : World} {a : Option Addr} {bs : List Nat} {e : Ending} {W' : World} (hb : Below w.heap.size w W) (h : PutsL W a bs e W') : PutsR a bs w e W' := by
  obtain ⟨a', c', e1, h1⟩ := h
  exact PutsR.before hb ⟨a', c', e1, Lib.hid h1.out.own, Lib.hid h1.out.grown, Lib.hid h1.out.new⟩
theorem OwnR.not_new {w : World} {a : Option Addr} {c : Nat} {bs : List Nat} (h : OwnR 5 u8v 0 w a c bs) : blk a ≠ some w.heap.size := by
  obtain ⟨_, ⟨rfl, _⟩ | ⟨g, rfl, _, hr⟩⟩ := h
  · intro e; cases e
  · intro e
    have h1 := hr.lt
    have h2 : g = w.heap.size := by simpa [blk] using e
    omega

set_option maxRecDepth 100000 in
set_option maxHeartbeats 4000000 in
theorem RRatio_any {w : World} {a a1 a2 : Option Addr} {c c1 c2 : Nat} {bs xs ds : List Nat} {s : Bool} (h : OwnR 5 u8v 0 w a c bs) (hx : LimbsR w a a1 c1 xs) (hd : LimbsR w a a2 c2 ds) (hl : bs.length ≤ 700000) :
    Calls Tryz.prog 22 #[.slice a bs.length c, .agg #[.bool s, .slice a1 xs.length c1, .slice a2 ds.length c2]] w (PutsR a (bs ++ Pk.encR s xs ds) w) := by
  obtain ⟨W0, hW0⟩ : ∃ W0, W0 = w.alloc (.cells #[.bool s, .slice a1 xs.length c1, .slice a2 ds.length c2] 35) := ⟨_, rfl⟩
  have hB0 : Below w.heap.size w W0 := by rw [hW0]; exact (Below.refl _ _).alloc (Nat.le_refl _) _
  have hb0 : W0.heap[w.heap.size]? = some (.cells #[.bool s, .slice a1 xs.length c1, .slice a2 ds.length c2] 35 (0, 0)) := by rw [hW0]; exact heap_alloc_new w _
  have hnn := h.not_new
  have HK : Hid (∀ W, W0.grownBy W (blk a) → W.cell? ⟨w.heap.size, 0, none⟩ = some (.bool s) ∧ W.cell? ⟨w.heap.size, 1, none⟩ = some (.slice a1 xs.length c1) ∧ W.cell? ⟨w.heap.size, 2, none⟩ = some (.slice a2 ds.length c2)) := Lib.hid fun W hc => by
    obtain ⟨k0, k1, k2, _⟩ := cells3 ((hc.block _ (Array.getElem?_eq_some_iff.1 hb0).1 (fun e => hnn e.symm)).trans hb0)
    exact ⟨k0, k1, k2⟩
  have H0 := Lib.hid ((RlAt.start (h.kept hB0)).kept (below_drew W0))
  have HX := Lib.hid (hx.kept hB0)
  have HD := Lib.hid (hd.kept hB0)
  have HB0 := Lib.hid hB0
  have HW0 := Lib.hid hW0
  have HE : Hid (((bs ++ Pk.encF s) ++ Pk.encL xs) ++ Pk.encL ds = bs ++ Pk.encR s xs ds) := Lib.hid (by unfold Pk.encR; simp [List.append_assoc])
  have HL1 : Hid ((bs ++ Pk.encF s).length ≤ 800000 ∧ ((bs ++ Pk.encF s) ++ Pk.encL xs).length ≤ 800000) := Lib.hid (by
    have := hx.len
    unfold Pk.encL Pk.encF
    have h2 := flat_len 4 xs
    simp only [List.length_append, List.length_singleton, Pk.encI_length, h2]
    omega)
  obtain ⟨B1, hB1⟩ : ∃ B, B = bs ++ Pk.encF s := ⟨_, rfl⟩
  obtain ⟨B2, hB2⟩ : ∃ B, B = B1 ++ Pk.encL xs := ⟨_, rfl⟩
  obtain ⟨B3, hB3⟩ : ∃ B, B = B2 ++ Pk.encL ds := ⟨_, rfl⟩
  rw [← hB1] at HE HL1
  rw [← hB2] at HE HL1
  rw [← hB3] at HE
  have HC1 : Hid (Calls Tryz.prog 18 #[.slice a bs.length c, .bool s] W0.drew (PutsL W0 a B1)) := Lib.hid (by rw [hB1]; exact RFlag_at H0.out (by omega))
  have HC2 : Hid (∀ W a' c', RlAt W0 a B1 a' c' W → Calls Tryz.prog 47 #[.slice a' B1.length c', .slice a1 xs.length c1] W (PutsL W0 a B2)) := Lib.hid fun W a' c' hh => by rw [hB2]; exact Rlimbs_at hh HX.out HL1.out.1
  have HC3 : Hid (∀ W a' c', RlAt W0 a B2 a' c' W → Calls Tryz.prog 47 #[.slice a' B2.length c', .slice a2 ds.length c2] W (PutsL W0 a B3)) := Lib.hid fun W a' c' hh => by rw [hB3]; exact Rlimbs_at hh HD.out HL1.out.2
  obtain ⟨k0, k1, k2⟩ := HK.out W0 (grown_refl _ _)
  clear h hx hd hW0 hB0 hb0 hnn hB1 hB2 hB3
  go_enter Tryz.func22, Tryz.ntmps22
  go_wp2_with fail
  rw [← HW0.out]
  refine wp_region_held_drew (S := (fun w' => w'.cell? ⟨w.heap.size, 0, none⟩ = some (.bool s) ∧ w'.cell? ⟨w.heap.size, 1, none⟩ = some (.slice a1 xs.length c1) ∧ w'.cell? ⟨w.heap.size, 2, none⟩ = some (.slice a2 ds.length c2))) (by kernel_rfl) ?_ (fun hHeld => ?_)
  · exact HK.out _ (grown_of_below (below_drew W0) _)
  refine wpAnyH_take (i := 0) (v := ?_) (by rfl) (by kernel_rfl) (by kernel_rfl) (by kernel_rfl) (by exact fun _ _ _ h => h) (Or.inl ⟨by rfl, ?_⟩) hHeld ?_
  rotate_left 1
  · intro w' hSw
    go_simp
    try with_reducible rfl
  try simp only [Act.put, List.setIfInBounds_toArray, List.set_cons_zero, List.set_cons_succ, List.getElem_toArray, List.getElem_cons_zero, List.getElem_cons_succ]
  refine wpAnyH_take (i := 1) (v := ?_) (by rfl) (by kernel_rfl) (by kernel_rfl) (by kernel_rfl) (by exact fun _ _ _ h => h) (Or.inl ⟨by rfl, ?_⟩) hHeld ?_
  rotate_left 1
  · intro w' hSw
    go_simp
    try with_reducible rfl
  try simp only [Act.put, List.setIfInBounds_toArray, List.set_cons_zero, List.set_cons_succ, List.getElem_toArray, List.getElem_cons_zero, List.getElem_cons_succ]
  refine wpAnyH_take (i := 2) (v := ?_) (by rfl) (by kernel_rfl) (by kernel_rfl) (by kernel_rfl) (by exact fun _ _ _ h => h) (Or.inl ⟨by rfl, ?_⟩) hHeld ?_
  rotate_left 1
  · intro w' hSw
    go_simp
    try with_reducible rfl
  try simp only [Act.put, List.setIfInBounds_toArray, List.set_cons_zero, List.set_cons_succ, List.getElem_toArray, List.getElem_cons_zero, List.getElem_cons_succ]
  refine wpAnyH_take (i := 3) (v := ?_) (by rfl) (by kernel_rfl) (by kernel_rfl) (by kernel_rfl) (by exact fun _ _ _ h => h) (Or.inl ⟨by rfl, ?_⟩) hHeld ?_
  rotate_left 1
  · intro w' hSw
    go_simp
    try with_reducible rfl
  try simp only [Act.put, List.setIfInBounds_toArray, List.set_cons_zero, List.set_cons_succ, List.getElem_toArray, List.getElem_cons_zero, List.getElem_cons_succ]
  refine wpAnyH_take (i := 5) (v := ?_) (by rfl) (by kernel_rfl) (by kernel_rfl) (by kernel_rfl) (by exact fun _ _ _ h => h) (Or.inl ⟨by rfl, ?_⟩) hHeld ?_
  rotate_left 1
  · intro w' hSw
    go_simp
    try with_reducible rfl
  try simp only [Act.put, List.setIfInBounds_toArray, List.set_cons_zero, List.set_cons_succ, List.getElem_toArray, List.getElem_cons_zero, List.getElem_cons_succ]
  refine wpAnyH_take (i := 6) (v := ?_) (by rfl) (by kernel_rfl) (by kernel_rfl) (by kernel_rfl) (by exact fun _ _ _ h => h) (Or.inl ⟨by rfl, ?_⟩) hHeld ?_
  rotate_left 1
  · intro w' hSw
    go_simp
    try with_reducible rfl
  try simp only [Act.put, List.setIfInBounds_toArray, List.set_cons_zero, List.set_cons_succ, List.getElem_toArray, List.getElem_cons_zero, List.getElem_cons_succ]
  refine wpAnyH_take (i := 7) (v := ?_) (by rfl) (by kernel_rfl) (by kernel_rfl) (by kernel_rfl) (by exact fun _ _ _ h => h) (Or.inl ⟨by rfl, ?_⟩) hHeld ?_
  rotate_left 1
  · intro w' hSw
    go_simp
    try with_reducible rfl
  try simp only [Act.put, List.setIfInBounds_toArray, List.set_cons_zero, List.set_cons_succ, List.getElem_toArray, List.getElem_cons_zero, List.getElem_cons_succ]
  refine wpAnyH_take (i := 9) (v := ?_) (by rfl) (by kernel_rfl) (by kernel_rfl) (by kernel_rfl) (by exact fun _ _ _ h => h) (Or.inl ⟨by rfl, ?_⟩) hHeld ?_
  rotate_left 1
  · intro w' hSw
    go_simp
    try with_reducible rfl
  try simp only [Act.put, List.setIfInBounds_toArray, List.set_cons_zero, List.set_cons_succ, List.getElem_toArray, List.getElem_cons_zero, List.getElem_cons_succ]
  refine wpAnyH_take (i := 10) (v := ?_) (by rfl) (by kernel_rfl) (by kernel_rfl) (by kernel_rfl) (by exact fun _ _ _ h => h) (Or.inl ⟨by rfl, ?_⟩) hHeld ?_
  rotate_left 1
  · intro w' hSw
    go_simp
    try with_reducible rfl
  try simp only [Act.put, List.setIfInBounds_toArray, List.set_cons_zero, List.set_cons_succ, List.getElem_toArray, List.getElem_cons_zero, List.getElem_cons_succ]
  refine wpAnyH_ready (rs := [4]) (by kernel_rfl) (by simp) ?_
  refine AllReadyH.cons (by rfl) (fun K hK => ?_) AllReadyH.nil
  go_simp
  with_reducible refine HC1.out.mono ?_
  rintro e w1 ⟨b1, d1, rfl, H1⟩
  refine hK.out _ _ ?_ (fun hHeld => ?_)
  · exact HK.out _ H1.out.grown
  clear hK K
  try simp only [Act.put, List.setIfInBounds_toArray, List.set_cons_zero, List.set_cons_succ, List.getElem_toArray, List.getElem_cons_zero, List.getElem_cons_succ]
  refine wpAnyH_ready (rs := [8]) (by kernel_rfl) (by simp) ?_
  refine AllReadyH.cons (by rfl) (fun K hK => ?_) AllReadyH.nil
  go_simp
  with_reducible refine (HC2.out _ _ _ H1.out).mono ?_
  rintro e w2 ⟨b2, d2, rfl, H2⟩
  refine hK.out _ _ ?_ (fun hHeld => ?_)
  · exact HK.out _ H2.out.grown
  clear hK K
  try simp only [Act.put, List.setIfInBounds_toArray, List.set_cons_zero, List.set_cons_succ, List.getElem_toArray, List.getElem_cons_zero, List.getElem_cons_succ]
  refine wpAnyH_ready (rs := [11]) (by kernel_rfl) (by simp) ?_
  refine AllReadyH.cons (by rfl) (fun K hK => ?_) AllReadyH.nil
  go_simp
  with_reducible refine (HC3.out _ _ _ H2.out).mono ?_
  rintro e w3 ⟨b3, d3, rfl, H3⟩
  refine hK.out _ _ ?_ (fun hHeld => ?_)
  · exact HK.out _ H3.out.grown
  clear hK K
  try simp only [Act.put, List.setIfInBounds_toArray, List.set_cons_zero, List.set_cons_succ, List.getElem_toArray, List.getElem_cons_zero, List.getElem_cons_succ]
  refine wpAnyH_take (i := 12) (v := ?_) (by rfl) (by kernel_rfl) (by kernel_rfl) (by kernel_rfl) (by exact fun _ _ _ h => h) (Or.inl ⟨by rfl, ?_⟩) hHeld ?_
  rotate_left 1
  · intro w' hSw
    go_simp
    try with_reducible rfl
  try simp only [Act.put, List.setIfInBounds_toArray, List.set_cons_zero, List.set_cons_succ, List.getElem_toArray, List.getElem_cons_zero, List.getElem_cons_succ]
  refine wpAnyH_done (by kernel_rfl) ?_ _
  clear hHeld
  have HF : Hid (PutsR a (bs ++ Pk.encR s xs ds) w (.returned (.slice b3 B3.length d3)) w3) := Lib.hid (PutsL.puts HB0.out ⟨b3, d3, by rw [HE.out], by rw [← HE.out]; exact H3⟩)
  clear H0 H1 H2 H3
  go_wp2_with fail
  go_ret
  exact HF.out
theorem RRatio_at {w W : World} {a a' a1 a2 : Option Addr} {c' c1 c2 : Nat} {bs xs ds : List Nat} {s : Bool} (h : RlAt w a bs a' c' W) (hx : LimbsR w a a1 c1 xs) (hd : LimbsR w a a2 c2 ds) (hl : bs.length ≤ 700000) :
    Calls Tryz.prog 22 #[.slice a' bs.length c', .agg #[.bool s, .slice a1 xs.length c1, .slice a2 ds.length c2]] W (PutsL w a (bs ++ Pk.encR s xs ds)) := (RRatio_any h.own (hx.grown h) (hd.grown h) hl).mono fun e W' hp => h.puts hp

set_option maxRecDepth 100000 in
set_option maxHeartbeats 4000000 in
theorem RDelta_any {w : World} {a a1 a2 b1 b2 : Option Addr} {c c1 c2 e1 e2 : Nat} {bs xs ds ys es : List Nat} {s t : Bool} (h : OwnR 5 u8v 0 w a c bs) (hx : LimbsR w a a1 c1 xs) (hd : LimbsR w a a2 c2 ds) (hy : LimbsR w a b1 e1 ys) (he : LimbsR w a b2 e2 es) (hl : bs.length ≤ 600000) :
    Calls Tryz.prog 24 #[.slice a bs.length c, .agg #[.bool s, .slice a1 xs.length c1, .slice a2 ds.length c2, .bool t, .slice b1 ys.length e1, .slice b2 es.length e2]] w (PutsR a (bs ++ (Pk.encR s xs ds ++ Pk.encR t ys es)) w) := by
  obtain ⟨W0, hW0⟩ : ∃ W0, W0 = w.alloc (.cells #[.bool s, .slice a1 xs.length c1, .slice a2 ds.length c2, .bool t, .slice b1 ys.length e1, .slice b2 es.length e2] 37) := ⟨_, rfl⟩
  have hB0 : Below w.heap.size w W0 := by rw [hW0]; exact (Below.refl _ _).alloc (Nat.le_refl _) _
  have hb0 : W0.heap[w.heap.size]? = some (.cells #[.bool s, .slice a1 xs.length c1, .slice a2 ds.length c2, .bool t, .slice b1 ys.length e1, .slice b2 es.length e2] 37 (0, 0)) := by rw [hW0]; exact heap_alloc_new w _
  have hnn := h.not_new
  have HK : Hid (∀ W, W0.grownBy W (blk a) → W.cell? ⟨w.heap.size, 0, none⟩ = some (.bool s) ∧ W.cell? ⟨w.heap.size, 1, none⟩ = some (.slice a1 xs.length c1) ∧ W.cell? ⟨w.heap.size, 2, none⟩ = some (.slice a2 ds.length c2) ∧ W.cell? ⟨w.heap.size, 3, none⟩ = some (.bool t) ∧ W.cell? ⟨w.heap.size, 4, none⟩ = some (.slice b1 ys.length e1) ∧ W.cell? ⟨w.heap.size, 5, none⟩ = some (.slice b2 es.length e2)) := Lib.hid fun W hc => by
    obtain ⟨k0, k1, k2, k3, k4, k5, _⟩ := cells6 ((hc.block _ (Array.getElem?_eq_some_iff.1 hb0).1 (fun e => hnn e.symm)).trans hb0)
    exact ⟨k0, k1, k2, k3, k4, k5⟩
  have H0 := Lib.hid ((RlAt.start (h.kept hB0)).kept (below_drew W0))
  have HX := Lib.hid (hx.kept hB0)
  have HD := Lib.hid (hd.kept hB0)
  have HY := Lib.hid (hy.kept hB0)
  have HZ := Lib.hid (he.kept hB0)
  have HB0 := Lib.hid hB0
  have HW0 := Lib.hid hW0
  have HE : Hid ((bs ++ Pk.encR s xs ds) ++ Pk.encR t ys es = bs ++ (Pk.encR s xs ds ++ Pk.encR t ys es)) := Lib.hid (List.append_assoc _ _ _)
  have HL1 : Hid ((bs ++ Pk.encR s xs ds).length ≤ 700000) := Lib.hid (by
    have := hx.len
    have := hd.len
    unfold Pk.encR Pk.encL Pk.encF
    have h2 := flat_len 4 xs
    have h3 := flat_len 4 ds
    simp only [List.length_append, List.length_singleton, Pk.encI_length, h2, h3]
    omega)
  obtain ⟨B1, hB1⟩ : ∃ B, B = bs ++ Pk.encR s xs ds := ⟨_, rfl⟩
  obtain ⟨B2, hB2⟩ : ∃ B, B = B1 ++ Pk.encR t ys es := ⟨_, rfl⟩
  rw [← hB1] at HE HL1
  rw [← hB2] at HE
  have HC1 : Hid (Calls Tryz.prog 22 #[.slice a bs.length c, .agg #[.bool s, .slice a1 xs.length c1, .slice a2 ds.length c2]] W0.drew (PutsL W0 a B1)) := Lib.hid (by rw [hB1]; exact RRatio_at H0.out HX.out HD.out (by omega))
  have HC2 : Hid (∀ W a' c', RlAt W0 a B1 a' c' W → Calls Tryz.prog 22 #[.slice a' B1.length c', .agg #[.bool t, .slice b1 ys.length e1, .slice b2 es.length e2]] W (PutsL W0 a B2)) := Lib.hid fun W a' c' hh => by rw [hB2]; exact RRatio_at hh HY.out HZ.out HL1.out
  obtain ⟨k0, k1, k2, k3, k4, k5⟩ := HK.out W0 (grown_refl _ _)
  clear h hx hd hy he hW0 hB0 hb0 hnn hB1 hB2
  go_enter Tryz.func24, Tryz.ntmps24
  go_wp2_with fail
  rw [← HW0.out]
  refine wp_region_held_drew (S := (fun w' => w'.cell? ⟨w.heap.size, 0, none⟩ = some (.bool s) ∧ w'.cell? ⟨w.heap.size, 1, none⟩ = some (.slice a1 xs.length c1) ∧ w'.cell? ⟨w.heap.size, 2, none⟩ = some (.slice a2 ds.length c2) ∧ w'.cell? ⟨w.heap.size, 3, none⟩ = some (.bool t) ∧ w'.cell? ⟨w.heap.size, 4, none⟩ = some (.slice b1 ys.length e1) ∧ w'.cell? ⟨w.heap.size, 5, none⟩ = some (.slice b2 es.length e2))) (by kernel_rfl) ?_ (fun hHeld => ?_)
  · exact HK.out _ (grown_of_below (below_drew W0) _)
  refine wpAnyH_take (i := 0) (v := ?_) (by rfl) (by kernel_rfl) (by kernel_rfl) (by kernel_rfl) (by exact fun _ _ _ h => h) (Or.inl ⟨by rfl, ?_⟩) hHeld ?_
  rotate_left 1
  · intro w' hSw
    go_simp
    try with_reducible rfl
  try simp only [Act.put, List.setIfInBounds_toArray, List.set_cons_zero, List.set_cons_succ, List.getElem_toArray, List.getElem_cons_zero, List.getElem_cons_succ]
  refine wpAnyH_take (i := 1) (v := ?_) (by rfl) (by kernel_rfl) (by kernel_rfl) (by kernel_rfl) (by exact fun _ _ _ h => h) (Or.inl ⟨by rfl, ?_⟩) hHeld ?_
  rotate_left 1
  · intro w' hSw
    go_simp
    try with_reducible rfl
  try simp only [Act.put, List.setIfInBounds_toArray, List.set_cons_zero, List.set_cons_succ, List.getElem_toArray, List.getElem_cons_zero, List.getElem_cons_succ]
  refine wpAnyH_take (i := 2) (v := ?_) (by rfl) (by kernel_rfl) (by kernel_rfl) (by kernel_rfl) (by exact fun _ _ _ h => h) (Or.inl ⟨by rfl, ?_⟩) hHeld ?_
  rotate_left 1
  · intro w' hSw
    go_simp
    try with_reducible rfl
  try simp only [Act.put, List.setIfInBounds_toArray, List.set_cons_zero, List.set_cons_succ, List.getElem_toArray, List.getElem_cons_zero, List.getElem_cons_succ]
  refine wpAnyH_take (i := 4) (v := ?_) (by rfl) (by kernel_rfl) (by kernel_rfl) (by kernel_rfl) (by exact fun _ _ _ h => h) (Or.inl ⟨by rfl, ?_⟩) hHeld ?_
  rotate_left 1
  · intro w' hSw
    go_simp
    try with_reducible rfl
  try simp only [Act.put, List.setIfInBounds_toArray, List.set_cons_zero, List.set_cons_succ, List.getElem_toArray, List.getElem_cons_zero, List.getElem_cons_succ]
  refine wpAnyH_take (i := 5) (v := ?_) (by rfl) (by kernel_rfl) (by kernel_rfl) (by kernel_rfl) (by exact fun _ _ _ h => h) (Or.inl ⟨by rfl, ?_⟩) hHeld ?_
  rotate_left 1
  · intro w' hSw
    go_simp
    try with_reducible rfl
  try simp only [Act.put, List.setIfInBounds_toArray, List.set_cons_zero, List.set_cons_succ, List.getElem_toArray, List.getElem_cons_zero, List.getElem_cons_succ]
  refine wpAnyH_ready (rs := [3]) (by kernel_rfl) (by simp) ?_
  refine AllReadyH.cons (by rfl) (fun K hK => ?_) AllReadyH.nil
  go_simp
  with_reducible refine HC1.out.mono ?_
  rintro e w1 ⟨p1, q1, rfl, H1⟩
  refine hK.out _ _ ?_ (fun hHeld => ?_)
  · exact HK.out _ H1.out.grown
  clear hK K
  try simp only [Act.put, List.setIfInBounds_toArray, List.set_cons_zero, List.set_cons_succ, List.getElem_toArray, List.getElem_cons_zero, List.getElem_cons_succ]
  refine wpAnyH_ready (rs := [6]) (by kernel_rfl) (by simp) ?_
  refine AllReadyH.cons (by rfl) (fun K hK => ?_) AllReadyH.nil
  go_simp
  with_reducible refine (HC2.out _ _ _ H1.out).mono ?_
  rintro e w2 ⟨p2, q2, rfl, H2⟩
  refine hK.out _ _ ?_ (fun hHeld => ?_)
  · exact HK.out _ H2.out.grown
  clear hK K
  try simp only [Act.put, List.setIfInBounds_toArray, List.set_cons_zero, List.set_cons_succ, List.getElem_toArray, List.getElem_cons_zero, List.getElem_cons_succ]
  refine wpAnyH_take (i := 7) (v := ?_) (by rfl) (by kernel_rfl) (by kernel_rfl) (by kernel_rfl) (by exact fun _ _ _ h => h) (Or.inl ⟨by rfl, ?_⟩) hHeld ?_
  rotate_left 1
  · intro w' hSw
    go_simp
    try with_reducible rfl
  try simp only [Act.put, List.setIfInBounds_toArray, List.set_cons_zero, List.set_cons_succ, List.getElem_toArray, List.getElem_cons_zero, List.getElem_cons_succ]
  refine wpAnyH_done (by kernel_rfl) ?_ _
  clear hHeld
  have HF : Hid (PutsR a (bs ++ (Pk.encR s xs ds ++ Pk.encR t ys es)) w (.returned (.slice p2 B2.length q2)) w2) := Lib.hid (PutsL.puts HB0.out ⟨p2, q2, by rw [HE.out], by rw [← HE.out]; exact H2⟩)
  clear H0 H1 H2
  go_wp2_with fail
  go_ret
  exact HF.out
end Go.Proofs.YtodedlnpokagfaaGreatDoor


/-
  The document's Of, Form, Add, Neg, Scale of numbers with a delta.
-/
set_option linter.unusedVariables false
set_option linter.unusedSimpArgs false
namespace Go.Proofs.YtodedlnpokagfaaGreatDoor
open Go.RowKit Rep


end Go.Proofs.YtodedlnpokagfaaGreatDoor


/-
  Numbers with a delta: how two stand to one another, the document's and the program's; Same, Right.
-/
set_option linter.unusedVariables false
set_option linter.unusedSimpArgs false
namespace Go.Proofs.YtodedlnpokagfaaGreatDoor
open Go.RowKit Rep

/-- How two numbers with a delta stand to one another. -/
def cmpDQ (q r q' r' : Rat) : Int := if cmpQ q q' = 0 then cmpQ r r' else cmpQ q q'
theorem VQ.ratx {q : Rat} {s : Bool} {a b : Option Addr} {l c k e : Nat} {W : World} (h : VQ q (s, (a, l, c), (b, k, e)) W) (hs : szQ q ≤ 100) : RatX W s a l c b k e (mgQ q) q.den (denN q.den) q := by
  obtain ⟨h0, h1, h2, h3⟩ := h
  dsimp only at h0 h1 h2 h3
  subst h0 h1 h2
  exact h3.x (by omega)
section
variable {W5 W : World} {q r : Rat} {s t : Bool} {z1 z2 y1 y2 : Option Addr} {m1 k1 m2 k2 n1 j1 n2 j2 : Nat}
end

set_option maxRecDepth 100000 in
set_option maxHeartbeats 4000000 in
theorem SameDD {W5 w : World} {xs : Bool} {xa xb : Option Addr} {xl xc xk xe : Nat} {us : Bool} {ua ub : Option Addr} {ul uc uk ue : Nat} {ys : Bool} {ya yb : Option Addr} {yl yc yk ye : Nat} {vs : Bool} {va vb : Option Addr} {vl vc vk ve : Nat} {q r q' r' : Rat} (hx : VQ q (xs, (xa, xl, xc), (xb, xk, xe)) w) (hu : VQ r (us, (ua, ul, uc), (ub, uk, ue)) w) (hy : VQ q' (ys, (ya, yl, yc), (yb, yk, ye)) w) (hv : VQ r' (vs, (va, vl, vc), (vb, vk, ve)) w) (zq : szQ q ≤ 100) (zr : szQ r ≤ 100) (zq' : szQ q' ≤ 100) (zr' : szQ r' ≤ 100) (hb5 : Below W5.heap.size W5 w) (e1 : q = q') (e2 : r = r') :
    Calls Tryz.prog 33 #[.agg #[.bool xs, .slice xa xl xc, .slice xb xk xe, .bool us, .slice ua ul uc, .slice ub uk ue], .agg #[.bool ys, .slice ya yl yc, .slice yb yk ye, .bool vs, .slice va vl vc, .slice vb vk ve]] w (GotV W5 (.bool true)) := by
  obtain ⟨W0, hW0, hB0, b0, b1, hs⟩ := boxes2 w #[.bool xs, .slice xa xl xc, .slice xb xk xe, .bool us, .slice ua ul uc, .slice ub uk ue] #[.bool ys, .slice ya yl yc, .slice yb yk ye, .bool vs, .slice va vl vc, .slice vb vk ve] 37 37
  have HK : Hid (∀ W, Below W0.heap.size W0 W → (W.cell? ⟨w.heap.size, 0, none⟩ = some (.bool xs) ∧ W.cell? ⟨w.heap.size, 1, none⟩ = some (.slice xa xl xc) ∧ W.cell? ⟨w.heap.size, 2, none⟩ = some (.slice xb xk xe) ∧ W.cell? ⟨w.heap.size, 3, none⟩ = some (.bool us) ∧ W.cell? ⟨w.heap.size, 4, none⟩ = some (.slice ua ul uc) ∧ W.cell? ⟨w.heap.size, 5, none⟩ = some (.slice ub uk ue) ∧ W.cell? ⟨w.heap.size + 1, 0, none⟩ = some (.bool ys) ∧ W.cell? ⟨w.heap.size + 1, 1, none⟩ = some (.slice ya yl yc) ∧ W.cell? ⟨w.heap.size + 1, 2, none⟩ = some (.slice yb yk ye) ∧ W.cell? ⟨w.heap.size + 1, 3, none⟩ = some (.bool vs) ∧ W.cell? ⟨w.heap.size + 1, 4, none⟩ = some (.slice va vl vc) ∧ W.cell? ⟨w.heap.size + 1, 5, none⟩ = some (.slice vb vk ve))) := Lib.hid fun W h => by
    obtain ⟨k0, k1, k2, k3, k4, k5, _⟩ := cells6 (stay b0 h)
    obtain ⟨k6, k7, k8, k9, k10, k11, _⟩ := cells6 (stay b1 h)
    exact ⟨k0, k1, k2, k3, k4, k5, k6, k7, k8, k9, k10, k11⟩
  have HBL := Lib.hid (hb5.trans (hB0.mono hb5.size))
  have HW0 := Lib.hid hW0
  obtain ⟨k0, k1, k2, k3, k4, k5, k6, k7, k8, k9, k10, k11⟩ := HK.out W0 (Below.refl _ _)
  subst e1 e2
  have HC1 : Hid (∀ W, Below W0.heap.size W0 W → _) := Lib.hid fun W h => got_same ((hx.kept hB0).kept h) ((hy.kept hB0).kept h) zq h
  have HC2 : Hid (∀ W, Below W0.heap.size W0 W → _) := Lib.hid fun W h => got_same ((hu.kept hB0).kept h) ((hv.kept hB0).kept h) zr h
  clear hW0 hB0 b0 b1 hs hx hu hy hv zq zr zq' zr' hb5
  go_enter Tryz.func33, Tryz.ntmps33
  go_wp2_with fail
  rw [← HW0.out]
  refine (HC1.out W0 (Below.refl _ _)).mono ?_
  rintro e w3 ⟨rfl, G3⟩
  obtain ⟨k0, k1, k2, k3, k4, k5, k6, k7, k8, k9, k10, k11⟩ := HK.out _ G3.out
  clear HC1
  go_wp2_with fail
  refine (HC2.out _ G3.out).mono ?_
  rintro e w4 ⟨rfl, G4⟩
  have HE := Lib.hid (HBL.out.trans (G4.out.mono HBL.out.size))
  clear HC2 G3 G4
  go_wp2_with fail
  go_ret
  exact ⟨rfl, HE⟩


set_option maxRecDepth 100000 in
set_option maxHeartbeats 2000000 in
theorem RightDD {W5 w : World} {s t : Bool} {a1 a2 b1 b2 : Option Addr} {c1 c2 e1 e2 : Nat} {xs ds ys es : List Nat} (hx : HandR w a1 c1 xs a2 c2 ds) (hu : HandR w b1 e1 ys b2 e2 es) (l1 : xs.length ≤ 6) (l2 : ds.length ≤ 6) (l3 : ys.length ≤ 6) (l4 : es.length ≤ 6) (hb5 : Below W5.heap.size W5 w) :
    Calls Tryz.prog 43 #[.agg #[.bool s, .slice a1 xs.length c1, .slice a2 ds.length c2, .bool t, .slice b1 ys.length e1, .slice b2 es.length e2]] w (GotV W5 (.bool (rightB s xs ds && rightB t ys es))) := by
  obtain ⟨W0, hW0⟩ : ∃ W0, W0 = w.alloc (.cells #[.bool s, .slice a1 xs.length c1, .slice a2 ds.length c2, .bool t, .slice b1 ys.length e1, .slice b2 es.length e2] 37) := ⟨_, rfl⟩
  have hB0 : Below w.heap.size w W0 := by rw [hW0]; exact (Below.refl _ _).alloc (Nat.le_refl _) _
  have b0 : W0.heap[w.heap.size]? = some (.cells #[.bool s, .slice a1 xs.length c1, .slice a2 ds.length c2, .bool t, .slice b1 ys.length e1, .slice b2 es.length e2] 37 (0, 0)) := by rw [hW0]; exact heap_alloc_new w _
  have HC1 : Hid (∀ W, Below W0.heap.size W0 W → _) := Lib.hid fun W h => RightR_any' (s := s) ((hx.kept hB0).kept h) l1 l2
  have HC2 : Hid (∀ W, Below W0.heap.size W0 W → _) := Lib.hid fun W h => RightR_any' (s := t) ((hu.kept hB0).kept h) l3 l4
  have HK : Hid (∀ W, Below W0.heap.size W0 W → _) := Lib.hid fun W h => cells6 (stay b0 h)
  have HBL := Lib.hid (hb5.trans (hB0.mono hb5.size))
  have HW0 := Lib.hid hW0
  obtain ⟨k0, k1, k2, k3, k4, k5, _⟩ := HK.out W0 (Below.refl _ _)
  obtain ⟨p, hp⟩ : ∃ p, rightB s xs ds = p := ⟨_, rfl⟩
  obtain ⟨q, hq⟩ : ∃ q, rightB t ys es = q := ⟨_, rfl⟩
  rw [hp] at HC1
  rw [hq] at HC2
  rw [hp, hq]
  clear hW0 hB0 b0 hx hu l1 l2 l3 l4 hb5 hp hq
  go_enter Tryz.func43, Tryz.ntmps43
  go_wp2_with fail
  rw [← HW0.out]
  have HD := Lib.hid (HC1.out W0 (Below.refl _ _))
  cases p
  · refine HD.out.mono ?_
    rintro e w3 ⟨rfl, h3⟩
    have HE := Lib.hid (HBL.out.trans (h3.mono HBL.out.size))
    clear h3 HC1 HC2 HK HD
    go_wp2_with fail
    go_ret
    exact ⟨rfl, HE⟩
  · refine HD.out.mono ?_
    rintro e w3 ⟨rfl, h3⟩
    obtain ⟨k0, k1, k2, k3, k4, k5, _⟩ := HK.out _ h3
    have HC3 := Lib.hid (HC2.out _ h3)
    have HE1 := Lib.hid (HBL.out.trans (h3.mono HBL.out.size))
    clear h3 HC1 HC2 HK HD
    go_wp2_with fail
    refine HC3.out.mono ?_
    rintro e w4 ⟨rfl, h4⟩
    have HE := Lib.hid (HE1.out.trans (h4.mono HE1.out.size))
    clear h4 HC3
    go_wp2_with fail
    go_ret
    exact ⟨by rw [Bool.true_and]; rfl, HE⟩
end Go.Proofs.YtodedlnpokagfaaGreatDoor


/-
  Numbers with a delta as texts: the document's and the program's.
-/
set_option linter.unusedVariables false
set_option linter.unusedSimpArgs false
namespace Go.Proofs.YtodedlnpokagfaaGreatDoor
open Go.RowKit Rep


theorem sign_cases (r : Rat) : (r = 0 ∧ cmpQ r 0 = 0) ∨ (mgQ r ≠ 0 ∧ ngQ r = true ∧ cmpQ r 0 = -1) ∨ (mgQ r ≠ 0 ∧ ngQ r = false ∧ cmpQ r 0 = 1) := by
  have h := cmpQ_sub r 0
  rw [show r - 0 = r from by grind] at h
  by_cases h0 : mgQ r = 0
  · rw [if_pos h0] at h
    exact .inl ⟨mg_zero.1 h0, h⟩
  · rw [if_neg h0] at h
    cases hn : ngQ r
    · rw [hn, if_neg (by decide)] at h
      exact .inr (.inr ⟨h0, rfl, h⟩)
    · rw [hn, if_pos rfl] at h
      exact .inr (.inl ⟨h0, rfl, h⟩)
theorem text_neg {r : Rat} (h0 : mgQ r ≠ 0) (h : ngQ r = true) : textQ r = ⟨#[45]⟩ ++ textQ (-r) := by
  unfold textQ
  rw [neg_ng, if_neg h0, h, neg_mg, neg_den]
  cases decide (r.den = 1)
  · rw [textB_more, textB_more, if_pos rfl, if_neg (by decide), ByteArray.append_assoc]
  · rw [textB_one, textB_one, if_pos rfl, if_neg (by decide)]
theorem text_size {q : Rat} (h : szQ q ≤ 100) : (textQ q).size ≤ 5000 := by
  unfold szQ at h
  have h1 := dlen_L (n := mgQ q) (k := 100) (by omega)
  have h2 := dlen_L (n := denN q.den) (k := 100) (by omega)
  have h3 := tN_len (mgQ q)
  have h4 := tN_len (denN q.den)
  have e1 : (⟨#[45]⟩ : ByteArray).size = 1 := rfl
  have e2 : (⟨#[47]⟩ : ByteArray).size = 1 := rfl
  have e3 : (⟨#[]⟩ : ByteArray).size = 0 := rfl
  unfold textQ textB
  rw [ByteArray.size_append]
  split <;> split <;> simp only [ByteArray.size_append, e1, e2, e3] <;> omega
/-- A number with a delta as a text. -/
def textDQ (q r : Rat) : ByteArray := if r = 0 then textQ q else if ngQ r = true then textQ q ++ (textQ r ++ ⟨#[100]⟩) else textQ q ++ ((⟨#[43]⟩ ++ textQ r) ++ ⟨#[100]⟩)

end Go.Proofs.YtodedlnpokagfaaGreatDoor


/-
  delta.byParts, with each of ratio's Add, Sub and Mul.
-/
set_option linter.unusedVariables false
set_option linter.unusedSimpArgs false
namespace Go.Proofs.YtodedlnpokagfaaGreatDoor
open Go.RowKit Rep


theorem vq_z (W : World) : VQ 0 (false, (none, 0, 0), (none, 0, 0)) W := ⟨by decide, rfl, rfl, AtQ.zero W⟩
theorem grown_set6 {w W : World} {b r : Nat} (h : w.grownBy W (some b)) (hr : w.heap.size ≤ r) (s : Bool) (v1 v2 : Value) (t : Bool) (v3 v4 : Value) : w.grownBy (set6 W r s v1 v2 t v3 v4) (some b) := by
  have hg := set6_grown W r s v1 v2 t v3 v4
  exact ⟨hg.os.trans h.os, hg.tape.trans h.tape, hg.output.trans h.output, Nat.le_trans h.size hg.size, fun k hk hne => (hg.block k (Nat.lt_of_lt_of_le hk h.size) (by simp; omega)).trans (h.block k hk hne)⟩
theorem Bench.set6 {W : World} {b m r : Nat} {o : Bool} (h : Bench W b m o) (hne : b ≠ r) (s : Bool) (v1 v2 : Value) (t : Bool) (v3 v4 : Value) : Bench (Go.Proofs.YtodedlnpokagfaaGreatDoor.set6 W r s v1 v2 t v3 v4) b m o := h.of_block ((set6_grown W r s v1 v2 t v3 v4).block b h.lt (by simpa using hne))
theorem Six.grown {W W' : World} {r b : Nat} {ty : TypeId} (h : Six W r ty) (hg : W.grownBy W' (some b)) (hne : r ≠ b) : Six W' r ty := (hg.block r (Array.getElem?_eq_some_iff.1 h).1 (by simpa using hne)).trans h
theorem VQ.bench {q : Rat} {v : RawR} {W W' : World} {b m : Nat} {o : Bool} (h : VQ q v W) (hb : Bench W b m o) (hg : W.grownBy W' (some b)) : VQ q v W' := ⟨h.e0, h.e1, h.e2, h.lies.bench hb hg⟩
/-- Behind the first call. -/
structure S1 (W0 : World) (b m : Nat) (q : Rat) (o : Bool) (x : RawR) (W : World) : Prop where
  vx : VQ q x W
  bench : Bench W b m o
  grown : W0.grownBy W (some b)
/-- Behind both calls. -/
structure S2 (W0 : World) (b m : Nat) (q r : Rat) (o : Bool) (x y : RawR) (W : World) : Prop where
  vx : VQ q x W
  vy : VQ r y W
  bench : Bench W b m o
  grown : W0.grownBy W (some b)
section
variable {W0 W : World} {b m : Nat} {q r : Rat} {o : Bool} {x y : RawR}
theorem S1.kept {W' : World} (h : S1 W0 b m q o x W) (hb : Below W.heap.size W W') : S1 W0 b m q o x W' := ⟨h.vx.kept hb, h.bench.kept hb, grownBy_trans' h.grown (grown_of_below hb _)⟩
theorem S2.kept {W' : World} (h : S2 W0 b m q r o x y W) (hb : Below W.heap.size W W') : S2 W0 b m q r o x y W' := ⟨h.vx.kept hb, h.vy.kept hb, h.bench.kept hb, grownBy_trans' h.grown (grown_of_below hb _)⟩
theorem S2.set6 {g : Nat} {ty : TypeId} (h : S2 W0 b m q r o x y W) (hb : Six W g ty) (hg : W0.heap.size ≤ g) (hne : b ≠ g) (s : Bool) (v1 v2 : Value) (t : Bool) (v3 v4 : Value) : S2 W0 b m q r o x y (Go.Proofs.YtodedlnpokagfaaGreatDoor.set6 W g s v1 v2 t v3 v4) :=
  ⟨h.vx.set6 hb _ _ _ _ _ _, h.vy.set6 hb _ _ _ _ _ _, h.bench.set6 hne _ _ _ _ _ _, grown_set6 h.grown hg _ _ _ _ _ _⟩
/-- Behind the region: where both answers lie. -/
structure ByAt (W0 : World) (b m : Nat) (q r : Rat) (o : Bool) (i : Nat × RawR × RawR) (W : World) : Prop where
  lies : W.heap[i.1]? = some (.cells #[.bool i.2.1.1, .slice i.2.1.2.1.1 i.2.1.2.1.2.1 i.2.1.2.1.2.2, .slice i.2.1.2.2.1 i.2.1.2.2.2.1 i.2.1.2.2.2.2, .bool i.2.2.1, .slice i.2.2.2.1.1 i.2.2.2.1.2.1 i.2.2.2.1.2.2, .slice i.2.2.2.2.1 i.2.2.2.2.2.1 i.2.2.2.2.2.2] 37 (0, 0))
  t : S2 W0 b m q r o i.2.1 i.2.2 W
theorem S2.endA (h : S2 W0 b m q r o x y W) : ByAt W0 b m q r o (W.heap.size, x, y) (W.alloc (.cells #[.bool x.1, .slice x.2.1.1 x.2.1.2.1 x.2.1.2.2, .slice x.2.2.1 x.2.2.2.1 x.2.2.2.2, .bool y.1, .slice y.2.1.1 y.2.1.2.1 y.2.1.2.2, .slice y.2.2.1 y.2.2.2.1 y.2.2.2.2] 37)) := ⟨heap_alloc_new W _, h.kept ((Below.refl _ _).alloc (Nat.le_refl _) _)⟩
theorem S2.endB {g : Nat} (h : S2 W0 b m q r o x y W) (hb : Six W g 37) (hg : W0.heap.size ≤ g) (hne : b ≠ g) :
    ByAt W0 b m q r o (g, x, y) (Go.Proofs.YtodedlnpokagfaaGreatDoor.set6 W g x.1 (.slice x.2.1.1 x.2.1.2.1 x.2.1.2.2) (.slice x.2.2.1 x.2.2.2.1 x.2.2.2.2) y.1 (.slice y.2.1.1 y.2.1.2.1 y.2.1.2.2) (.slice y.2.2.1 y.2.2.2.1 y.2.2.2.2)) := by
  refine ⟨?_, h.set6 hb hg hne _ _ _ _ _ _⟩
  unfold Six at hb
  simp [Go.Proofs.YtodedlnpokagfaaGreatDoor.set6, World.setCell, Array.getElem?_modify, hb]
end
theorem farG {w W0 W : World} {b : Nat} (h : w.heap.size + 1 + 1 < W0.heap.size) (hb : W0.grownBy W (some b)) : w.heap.size ≠ W.heap.size ∧ W.heap.size ≠ w.heap.size ∧ w.heap.size + 1 ≠ W.heap.size ∧ W.heap.size ≠ w.heap.size + 1 := by
  have := hb.size
  omega
/-- A call gives both parts, as far as a bench lets them be (o: it is over). -/
def GivesQQ (b m : Nat) (o : Bool) (q r : Rat) (w : World) (e : Ending) (w' : World) : Prop :=
  ∃ s z1 m1 k1 z2 m2 k2 t y1 n1 j1 y2 n2 j2, e = .returned (.agg #[.bool s, .slice z1 m1 k1, .slice z2 m2 k2, .bool t, .slice y1 n1 j1, .slice y2 n2 j2]) ∧
    Hid (VQ (if o = true then 0 else q) (s, (z1, m1, k1), (z2, m2, k2)) w') ∧ Hid (VQ (if o = true then 0 else r) (t, (y1, n1, j1), (y2, n2, j2)) w') ∧ Hid (Bench w' b m o) ∧ Hid (w.grownBy w' (some b))
/-- What the first call of a reckoning by parts gives. -/
def First (f : FuncId) (w : World) (b m : Nat) (q : Rat) (o : Bool) (v1 v2 : Value) : Prop :=
  ∀ V W, Below w.heap.size w V → Below V.heap.size V W → Calls Tryz.prog f #[.pointer (some ⟨b, 0, none⟩), v1, v2] W fun e W' => ∃ s z1 m1 k1 z2 m2 k2, e = .returned (.agg #[.bool s, .slice z1 m1 k1, .slice z2 m2 k2]) ∧ Hid (S1 V b m q o (s, (z1, m1, k1), (z2, m2, k2)) W') ∧ Hid (W.grownBy W' (some b))
/-- What the second one gives. -/
def Second (f : FuncId) (w : World) (b m : Nat) (q r : Rat) (o o2 : Bool) (v1 v2 : Value) : Prop :=
  ∀ V W3 W x, Below w.heap.size w V → S1 V b m q o x W3 → Below W3.heap.size W3 W → Calls Tryz.prog f #[.pointer (some ⟨b, 0, none⟩), v1, v2] W fun e W' => ∃ s z1 m1 k1 z2 m2 k2, e = .returned (.agg #[.bool s, .slice z1 m1 k1, .slice z2 m2 k2]) ∧ Hid (S2 V b m q r o2 x (s, (z1, m1, k1), (z2, m2, k2)) W') ∧ Hid (W.grownBy W' (some b))
theorem fin_by {w W0 W : World} {b m r : Nat} {o : Bool} {qa qb : Rat} {s t : Bool} {z1 z2 y1 y2 : Option Addr} {m1 k1 m2 k2 n1 j1 n2 j2 : Nat} (hB0 : Below w.heap.size w W0) (hr : w.heap.size ≤ r) (hb : Six W r 37) (hne : b ≠ r) (hg : W0.grownBy W (some b)) (hbe : Bench W b m o)
    (h1 : VQ (if o = true then 0 else qa) (s, (z1, m1, k1), (z2, m2, k2)) W) (h2 : VQ (if o = true then 0 else qb) (t, (y1, n1, j1), (y2, n2, j2)) W) :
    GivesQQ b m o qa qb w (.returned (.agg #[.bool s, .slice z1 m1 k1, .slice z2 m2 k2, .bool t, .slice y1 n1 j1, .slice y2 n2 j2])) (set6 W r s (.slice z1 m1 k1) (.slice z2 m2 k2) t (.slice y1 n1 j1) (.slice y2 n2 j2)) :=
  ⟨s, z1, m1, k1, z2, m2, k2, t, y1, n1, j1, y2, n2, j2, rfl, Lib.hid (h1.set6 hb _ _ _ _ _ _), Lib.hid (h2.set6 hb _ _ _ _ _ _), Lib.hid (hbe.set6 hne _ _ _ _ _ _), Lib.hid (grown_set6 (grownBy_trans' (grown_of_below hB0 _) hg) hr _ _ _ _ _ _)⟩

end Go.Proofs.YtodedlnpokagfaaGreatDoor


/-
  delta.byParts with ratio's Sub.
-/
set_option linter.unusedVariables false
set_option linter.unusedSimpArgs false
namespace Go.Proofs.YtodedlnpokagfaaGreatDoor
open Go.RowKit Rep


end Go.Proofs.YtodedlnpokagfaaGreatDoor


/-
  delta.byParts with ratio's Mul.
-/
set_option linter.unusedVariables false
set_option linter.unusedSimpArgs false
namespace Go.Proofs.YtodedlnpokagfaaGreatDoor
open Go.RowKit Rep


end Go.Proofs.YtodedlnpokagfaaGreatDoor


/-
  delta.Add, Sub and Scale.
-/
set_option linter.unusedVariables false
set_option linter.unusedSimpArgs false
namespace Go.Proofs.YtodedlnpokagfaaGreatDoor
open Go.RowKit Rep


theorem out_if {m : Nat} {q : Rat} {o : Bool} (h : o = false → ovQ m q = false) : (if o = true then (0 : Rat) else outQ m q) = if o = true then 0 else q := by
  cases o
  · have := h rfl
    unfold outQ
    simp [this]
  · rfl
theorem GivesQQ.through {b m r : Nat} {o : Bool} {q p : Rat} {w W W' : World} {e : Ending} (h : GivesQQ b m o q p W e W') (hB0 : Below w.heap.size w W) (hr : w.heap.size ≤ r) (hb : Six W r 37) (hne : b ≠ r) :
    ∃ s z1 m1 k1 z2 m2 k2 t y1 n1 j1 y2 n2 j2, e = .returned (.agg #[.bool s, .slice z1 m1 k1, .slice z2 m2 k2, .bool t, .slice y1 n1 j1, .slice y2 n2 j2]) ∧ Hid (Six W' r 37) ∧
      Hid (GivesQQ b m o q p w (.returned (.agg #[.bool s, .slice z1 m1 k1, .slice z2 m2 k2, .bool t, .slice y1 n1 j1, .slice y2 n2 j2])) (set6 W' r s (.slice z1 m1 k1) (.slice z2 m2 k2) t (.slice y1 n1 j1) (.slice y2 n2 j2))) := by
  obtain ⟨s, z1, m1, k1, z2, m2, k2, t, y1, n1, j1, y2, n2, j2, rfl, h1, h2, h3, h4⟩ := h
  have hs := hb.grown h4.out (Ne.symm hne)
  exact ⟨s, z1, m1, k1, z2, m2, k2, t, y1, n1, j1, y2, n2, j2, rfl, Lib.hid hs, Lib.hid (fin_by hB0 hr hs hne h4.out h3.out h1.out h2.out)⟩

end Go.Proofs.YtodedlnpokagfaaGreatDoor


/-
  law03's helper Odd.
-/
set_option linter.unusedVariables false
set_option linter.unusedSimpArgs false
namespace Go.Proofs.YtodedlnpokagfaaGreatDoor
open Go.RowKit Rep

/-- A number with a delta as a law is handed it. -/
structure HD where
  s : Bool
  a1 : Option Addr
  c1 : Nat
  xs : List Nat
  a2 : Option Addr
  c2 : Nat
  ds : List Nat
  t : Bool
  b1 : Option Addr
  e1 : Nat
  ys : List Nat
  b2 : Option Addr
  e2 : Nat
  es : List Nat
def HD.ra (d : HD) : RawR := (d.s, (d.a1, d.xs.length, d.c1), (d.a2, d.ds.length, d.c2))
def HD.rb (d : HD) : RawR := (d.t, (d.b1, d.ys.length, d.e1), (d.b2, d.es.length, d.e2))
structure HandD (w : World) (d : HD) : Prop where
  a : HandR w d.a1 d.c1 d.xs d.a2 d.c2 d.ds
  b : HandR w d.b1 d.e1 d.ys d.b2 d.e2 d.es
theorem HandD.kept {w w' : World} {d : HD} (h : HandD w d) (hb : Below w.heap.size w w') : HandD w' d := ⟨h.a.kept hb, h.b.kept hb⟩
/-- Is one not in its one form, or more than is looked at? -/
def oddE (d : HD) : Bool := greatB [d.ra, d.rb] || !(rightB d.s d.xs d.ds && rightB d.t d.ys d.es)
/-- From block g's beginning on lie such numbers. -/
def Dels (w : World) (g : Nat) (ts : List HD) : Prop := ∀ k d, ts[k]? = some d →
  w.cell? ⟨g, k * 6, none⟩ = some (.bool d.s) ∧ w.cell? ⟨g, k * 6 + 1, none⟩ = some (.slice d.a1 d.xs.length d.c1) ∧ w.cell? ⟨g, k * 6 + 2, none⟩ = some (.slice d.a2 d.ds.length d.c2) ∧
  w.cell? ⟨g, k * 6 + 3, none⟩ = some (.bool d.t) ∧ w.cell? ⟨g, k * 6 + 4, none⟩ = some (.slice d.b1 d.ys.length d.e1) ∧ w.cell? ⟨g, k * 6 + 5, none⟩ = some (.slice d.b2 d.es.length d.e2)

set_option maxRecDepth 100000 in
set_option maxHeartbeats 4000000 in
theorem Odd_any (g c : Nat) (ts : List HD) (w : World) (hr : Dels w g ts) (hh : ∀ d ∈ ts, HandD w d) (hg : g < w.heap.size) (hl : ts.length ≤ 1000) :
    Calls Tryz.prog 15 #[.slice (some ⟨g, 0, none⟩) ts.length c] w (GivesB (ts.any oddE) w) := by
  go_enter Tryz.func15, Tryz.ntmps15
  go_wp2_with fail
  go_loopw [7] (fun i wr => ∃ k : Nat, k ≤ ts.length ∧ i = .int .i64 k ∧ Hid ((ts.take k).any oddE = false) ∧ Below w.heap.size w wr) (fun i _ => ts.length - (intOf i).toNat)
  case atStart => exact ⟨0, Nat.zero_le _, rfl, Lib.hid rfl, Below.refl _ _⟩
  case round =>
    obtain ⟨k, hk, rfl, HE, hb⟩ := hrel
    by_cases hlt : k < ts.length
    · obtain ⟨c0, c1, c2, c3, c4, c5⟩ := hr k ts[k] (List.getElem?_eq_getElem hlt)
      have HT : Hid (ts.take (k + 1) = ts.take k ++ [ts[k]]) := Lib.hid (List.take_succ_eq_append_getElem hlt)
      have HM : Hid (ts[k] ∈ ts) := Lib.hid (List.getElem_mem hlt)
      have HH := Lib.hid (hh ts[k] (List.getElem_mem hlt))
      generalize ts[k] = d at c0 c1 c2 c3 c4 c5 HT HM HH
      obtain ⟨s, a1, x1, xs, a2, x2, ds, t, b1, y1, ys, b2, y2, es⟩ := d
      dsimp only at c0 c1 c2 c3 c4 c5
      have d0 := (hb.cell (p := ⟨g, k * 6, none⟩) hg).trans c0
      have d1 := (hb.cell (p := ⟨g, k * 6 + 1, none⟩) hg).trans c1
      have d2 := (hb.cell (p := ⟨g, k * 6 + 2, none⟩) hg).trans c2
      have d3 := (hb.cell (p := ⟨g, k * 6 + 3, none⟩) hg).trans c3
      have d4 := (hb.cell (p := ⟨g, k * 6 + 4, none⟩) hg).trans c4
      have d5 := (hb.cell (p := ⟨g, k * 6 + 5, none⟩) hg).trans c5
      have HB := Lib.hid hb
      have hgr : g < wr.heap.size := World.block_lt_of_cell? _ _ d0
      have ha1 := (Below.refl wr.heap.size wr).alloc (Nat.le_refl _) (.cells #[.bool s, .slice a1 xs.length x1, .slice a2 ds.length x2, .bool t, .slice b1 ys.length y1, .slice b2 es.length y2] 37)
      have ha2 := ha1.alloc ha1.size (.cells #[.bool s, .slice a1 xs.length x1, .slice a2 ds.length x2, .bool t, .slice b1 ys.length y1, .slice b2 es.length y2] 35)
      have hbl : ((wr.alloc (.cells #[.bool s, .slice a1 xs.length x1, .slice a2 ds.length x2, .bool t, .slice b1 ys.length y1, .slice b2 es.length y2] 37)).alloc (.cells #[.bool s, .slice a1 xs.length x1, .slice a2 ds.length x2, .bool t, .slice b1 ys.length y1, .slice b2 es.length y2] 35)).heap[wr.heap.size]? = some (.cells #[.bool s, .slice a1 xs.length x1, .slice a2 ds.length x2, .bool t, .slice b1 ys.length y1, .slice b2 es.length y2] 37 (0, 0)) := by
        rw [Below.heap_alloc _ _ _ (by simp)]; exact heap_alloc_new wr _
      have HG : Hid (Calls Tryz.prog 42 #[.slice (some ⟨wr.heap.size + 1, 0, none⟩) 2 2] ((wr.alloc (.cells #[.bool s, .slice a1 xs.length x1, .slice a2 ds.length x2, .bool t, .slice b1 ys.length y1, .slice b2 es.length y2] 37)).alloc (.cells #[.bool s, .slice a1 xs.length x1, .slice a2 ds.length x2, .bool t, .slice b1 ys.length y1, .slice b2 es.length y2] 35)) (GivesB (greatB [(s, (a1, xs.length, x1), (a2, ds.length, x2)), (t, (b1, ys.length, y1), (b2, es.length, y2))]) ((wr.alloc (.cells #[.bool s, .slice a1 xs.length x1, .slice a2 ds.length x2, .bool t, .slice b1 ys.length y1, .slice b2 es.length y2] 37)).alloc (.cells #[.bool s, .slice a1 xs.length x1, .slice a2 ds.length x2, .bool t, .slice b1 ys.length y1, .slice b2 es.length y2] 35)))) := Lib.hid (by
        have hn := heap_alloc_new (wr.alloc (.cells #[.bool s, .slice a1 xs.length x1, .slice a2 ds.length x2, .bool t, .slice b1 ys.length y1, .slice b2 es.length y2] 37)) (.cells #[.bool s, .slice a1 xs.length x1, .slice a2 ds.length x2, .bool t, .slice b1 ys.length y1, .slice b2 es.length y2] 35)
        rw [World.size_alloc] at hn
        exact Great_any (wr.heap.size + 1) 2 [(s, (a1, xs.length, x1), (a2, ds.length, x2)), (t, (b1, ys.length, y1), (b2, es.length, y2))] _ (Rats.two hn) (by simp) (by simp))
      have HA2 := Lib.hid ha2
      have HBL := Lib.hid (fun W h => cells6 (stay (W := W) hbl h))
      clear hb c0 c1 c2 c3 c4 c5 hr hh ha1 ha2 hbl
      cases hgr2 : greatB [(s, (a1, xs.length, x1), (a2, ds.length, x2)), (t, (b1, ys.length, y1), (b2, es.length, y2))]
      case true =>
        have HV : Hid (ts.any oddE = true) := Lib.hid (List.any_eq_true.2 ⟨_, HM.out, by unfold oddE HD.ra HD.rb; dsimp only; rw [hgr2]; rfl⟩)
        rw [hgr2] at HG
        clear hgr2 HE HT HM
        go_wp2_with fail
        refine HG.out.mono ?_
        rintro e w3 ⟨rfl, h3⟩
        have HF := Lib.hid (HB.out.trans ((HA2.out.trans (h3.mono HA2.out.size)).mono HB.out.size))
        clear h3 HG
        go_wp2_with fail
        go_ret
        exact ⟨by rw [HV.out]; rfl, HF.out⟩
      case false =>
        obtain ⟨l1, l2, l3, l4⟩ := great_two hgr2
        rw [hgr2] at HG
        obtain ⟨p, hp⟩ : ∃ p, (rightB s xs ds && rightB t ys es) = p := ⟨_, rfl⟩
        have HRT : Hid (∀ W, Below wr.heap.size wr W → Calls Tryz.prog 43 #[.agg #[.bool s, .slice a1 xs.length x1, .slice a2 ds.length x2, .bool t, .slice b1 ys.length y1, .slice b2 es.length y2]] W (GotV wr (.bool p))) := Lib.hid fun W h => by
          rw [← hp]
          exact RightDD (((HH.out.kept HB.out).kept h).a) (((HH.out.kept HB.out).kept h).b) l1 l2 l3 l4 h
        have HOE : Hid (oddE ⟨s, a1, x1, xs, a2, x2, ds, t, b1, y1, ys, b2, y2, es⟩ = !p) := Lib.hid (by unfold oddE HD.ra HD.rb; dsimp only; rw [hgr2, hp]; rfl)
        clear hgr2 hp l1 l2 l3 l4 HH
        go_wp2_with fail
        refine HG.out.mono ?_
        rintro e w3 ⟨rfl, h3⟩
        have HF := Lib.hid (HA2.out.trans (h3.mono HA2.out.size))
        obtain ⟨k0, k1, k2, k3, k4, k5, _⟩ := HBL.out _ h3
        have HR3 := Lib.hid (HRT.out _ HF.out)
        clear h3 HG HBL HRT HA2
        cases p
        case false =>
          have HV : Hid (ts.any oddE = true) := Lib.hid (List.any_eq_true.2 ⟨_, HM.out, by rw [HOE.out]; rfl⟩)
          clear HE HT HM HOE
          go_wp2_with fail
          refine HR3.out.mono ?_
          rintro e w4 ⟨rfl, G4⟩
          have HF4 := Lib.hid (HB.out.trans (G4.out.mono HB.out.size))
          clear G4 HR3 HF
          go_wp2_with fail
          go_ret
          exact ⟨by rw [HV.out]; rfl, HF4.out⟩
        case true =>
          have HV : Hid ((ts.take (k + 1)).any oddE = false) := Lib.hid (by
            rw [HT.out, List.any_append, HE.out]
            simp [HOE.out])
          clear HE HT HM HOE
          go_wp2_with fail
          refine HR3.out.mono ?_
          rintro e w4 ⟨rfl, G4⟩
          have HF4 := Lib.hid (HB.out.trans (G4.out.mono HB.out.size))
          clear G4 HR3 HF
          go_wp2_with fail
          go_roundw
          case rel => exact ⟨k + 1, by omega, by go_num, HV, HF4.out⟩
          case measure => simp [intOf]; omega
    · obtain rfl : k = ts.length := by omega
      have HB := Lib.hid hb
      clear hb hr hh
      go_wp2_with fail
      go_ret
      exact ⟨by have := HE.out; rw [List.take_length] at this; rw [this]; rfl, HB.out⟩
end Go.Proofs.YtodedlnpokagfaaGreatDoor


/-
  law04: things that a law is handed; great.
-/
set_option linter.unusedVariables false
set_option linter.unusedSimpArgs false
namespace Go.Proofs.YtodedlnpokagfaaGreatDoor
open Go.RowKit Rep

/-- A thing as a law is handed it. -/
structure TD where
  kind : Int
  n : Int
  b : Option Addr
  cb : Nat
  bs : List Nat
  x : HD
  l : Option Addr
  cl : Nat
  ls : List Nat
structure HandT (w : World) (t : TD) : Prop where
  kind : -9223372036854775808 ≤ t.kind ∧ t.kind ≤ 9223372036854775807
  n : -9223372036854775808 ≤ t.n ∧ t.n ≤ 9223372036854775807
  b : Reads w t.b (t.bs.map u8v)
  byt : Pk.Byt t.bs
  bc : t.bs.length ≤ t.cb ∧ t.cb ≤ maxLen
  x : HandD w t.x
  l : Reads w t.l (t.ls.map n64v)
  lim : ∀ m ∈ t.ls, m < 18446744073709551616
  lc : t.ls.length ≤ t.cl ∧ t.cl ≤ maxLen
theorem HandT.kept {w w' : World} {t : TD} (h : HandT w t) (hb : Below w.heap.size w w') : HandT w' t := ⟨h.kind, h.n, h.b.kept hb, h.byt, h.bc, h.x.kept hb, h.l.kept hb, h.lim, h.lc⟩
def TD.vals (t : TD) : List Value := [.int .i64 t.kind, .int .i64 t.n, .slice t.b t.bs.length t.cb, .bool t.x.s, .slice t.x.a1 t.x.xs.length t.x.c1, .slice t.x.a2 t.x.ds.length t.x.c2, .bool t.x.t, .slice t.x.b1 t.x.ys.length t.x.e1, .slice t.x.b2 t.x.es.length t.x.e2, .slice t.l t.ls.length t.cl]
structure ThingsIn (W : World) (a : Option Addr) (c : Nat) (ts : List TD) : Prop where
  le : ts.length ≤ c
  max : c ≤ maxLen
  mem : ts = [] ∨ ∃ g off, a = some ⟨g, off, none⟩ ∧ ∀ k p, ts[k]? = some p → ∀ j v, p.vals[j]? = some v → W.cell? ⟨g, off + (k * 10 + j), none⟩ = some v
theorem ThingsIn.kept {W W' : World} {a : Option Addr} {c : Nat} {ts : List TD} (h : ThingsIn W a c ts) (hb : Below W.heap.size W W') : ThingsIn W' a c ts := by
  refine ⟨h.le, h.max, ?_⟩
  rcases h.mem with h1 | ⟨g, off, h1, h2⟩
  · exact .inl h1
  · refine .inr ⟨g, off, h1, fun k p hk j v hv => ?_⟩
    have h3 := h2 k p hk j v hv
    rw [hb.cell (World.block_lt_of_cell? _ _ h3)]
    exact h3
/-- The cells of thing k, as letters. -/
theorem ThingsIn.letters {W : World} {a : Option Addr} {c : Nat} {ts : List TD} (h : ThingsIn W a c ts) {k : Nat} (hk : k < ts.length) : ∃ g off, a = some ⟨g, off, none⟩ ∧ g < W.heap.size ∧
    W.cell? ⟨g, off + k * 10, none⟩ = some (.int .i64 ts[k].kind) ∧
    W.cell? ⟨g, off + k * 10 + 1, none⟩ = some (.int .i64 ts[k].n) ∧
    W.cell? ⟨g, off + k * 10 + 2, none⟩ = some (.slice ts[k].b ts[k].bs.length ts[k].cb) ∧
    W.cell? ⟨g, off + k * 10 + 3, none⟩ = some (.bool ts[k].x.s) ∧
    W.cell? ⟨g, off + k * 10 + 4, none⟩ = some (.slice ts[k].x.a1 ts[k].x.xs.length ts[k].x.c1) ∧
    W.cell? ⟨g, off + k * 10 + 5, none⟩ = some (.slice ts[k].x.a2 ts[k].x.ds.length ts[k].x.c2) ∧
    W.cell? ⟨g, off + k * 10 + 6, none⟩ = some (.bool ts[k].x.t) ∧
    W.cell? ⟨g, off + k * 10 + 7, none⟩ = some (.slice ts[k].x.b1 ts[k].x.ys.length ts[k].x.e1) ∧
    W.cell? ⟨g, off + k * 10 + 8, none⟩ = some (.slice ts[k].x.b2 ts[k].x.es.length ts[k].x.e2) ∧
    W.cell? ⟨g, off + k * 10 + 9, none⟩ = some (.slice ts[k].l ts[k].ls.length ts[k].cl) := by
  rcases h.mem with h1 | ⟨g, off, h1, h2⟩
  · subst h1; simp at hk
  · have h3 := h2 k ts[k] (List.getElem?_eq_getElem hk)
    refine ⟨g, off, h1, World.block_lt_of_cell? _ _ (h3 0 _ rfl), h3 0 _ rfl, (by rw [Nat.add_assoc]; exact h3 1 _ rfl), (by rw [Nat.add_assoc]; exact h3 2 _ rfl), (by rw [Nat.add_assoc]; exact h3 3 _ rfl), (by rw [Nat.add_assoc]; exact h3 4 _ rfl), (by rw [Nat.add_assoc]; exact h3 5 _ rfl), (by rw [Nat.add_assoc]; exact h3 6 _ rfl), (by rw [Nat.add_assoc]; exact h3 7 _ rfl), (by rw [Nat.add_assoc]; exact h3 8 _ rfl), (by rw [Nat.add_assoc]; exact h3 9 _ rfl)⟩
/-- Is a thing more than is looked at? -/
def greatT (t : TD) : Bool := decide (300 < t.bs.length) || decide (60 < t.ls.length) || oddE t.x
def greatL (ts : List TD) : Bool := decide (40 < ts.length) || ts.any greatT
theorem Dels.one' {W : World} {g : Nat} {d : HD} (h : W.heap[g]? = some (.cells #[.bool d.s, .slice d.a1 d.xs.length d.c1, .slice d.a2 d.ds.length d.c2, .bool d.t, .slice d.b1 d.ys.length d.e1, .slice d.b2 d.es.length d.e2] 37 (0, 0))) : Dels W g [d] := by
  intro k d' hk
  rcases k with _ | k
  · simp only [List.getElem?_cons_zero, Option.some.injEq] at hk
    subst hk
    obtain ⟨a0, a1, a2, a3, a4, a5, _⟩ := cells6 h
    exact ⟨by simpa using a0, by simpa using a1, by simpa using a2, by simpa using a3, by simpa using a4, by simpa using a5⟩
  · simp at hk
theorem cells10 {w : World} {r : Nat} {v0 v1 v2 v3 v4 v5 v6 v7 v8 v9 : Value} {t : TypeId} (h : w.heap[r]? = some (.cells #[v0, v1, v2, v3, v4, v5, v6, v7, v8, v9] t (0, 0))) :
    w.cell? ⟨r, 0, none⟩ = some v0 ∧ w.cell? ⟨r, 1, none⟩ = some v1 ∧ w.cell? ⟨r, 2, none⟩ = some v2 ∧ w.cell? ⟨r, 3, none⟩ = some v3 ∧ w.cell? ⟨r, 4, none⟩ = some v4 ∧ w.cell? ⟨r, 5, none⟩ = some v5 ∧ w.cell? ⟨r, 6, none⟩ = some v6 ∧ w.cell? ⟨r, 7, none⟩ = some v7 ∧ w.cell? ⟨r, 8, none⟩ = some v8 ∧ w.cell? ⟨r, 9, none⟩ = some v9 := by
  refine ⟨?_, ?_, ?_, ?_, ?_, ?_, ?_, ?_, ?_, ?_⟩
  all_goals simp [World.cell?, h]

set_option maxRecDepth 100000 in
set_option maxHeartbeats 4000000 in
theorem great04_any {a : Option Addr} {c : Nat} {ts : List TD} {w : World} (hp : ThingsIn w a c ts) (hh : ∀ t ∈ ts, HandT w t) :
    Calls Tryz.prog 6 #[.slice a ts.length c] w (GivesB (greatL ts) w) := by
  have hle := hp.le
  have hmax := hp.max
  unfold maxLen at hmax
  by_cases h40 : 40 < ts.length
  · have hd : decide ((40 : Int) < (ts.length : Int)) = true := decide_eq_true (by omega)
    have HG : Hid (greatL ts = true) := Lib.hid (by unfold greatL; rw [decide_eq_true h40]; rfl)
    clear hp hh
    go_enter Tryz.func6, Tryz.ntmps6
    go_wp2_with fail
    go_ret
    exact ⟨by rw [HG.out]; rfl, Below.refl _ _⟩
  · have hd : decide ((40 : Int) < (ts.length : Int)) = false := decide_eq_false (by omega)
    have HG : Hid (greatL ts = ts.any greatT) := Lib.hid (by unfold greatL; rw [decide_eq_false h40]; rfl)
    have HP := Lib.hid hp
    have HH := Lib.hid hh
    clear hp hh
    go_enter Tryz.func6, Tryz.ntmps6
    go_wp2_with fail
    go_loopw [10] (fun i wr => ∃ k : Nat, k ≤ ts.length ∧ i = .int .i64 k ∧ Hid ((ts.take k).any greatT = false) ∧ Below w.heap.size w wr) (fun i _ => ts.length - (intOf i).toNat)
    case atStart => exact ⟨0, Nat.zero_le _, rfl, Lib.hid rfl, Below.refl _ _⟩
    case round =>
      obtain ⟨k, hk, rfl, HE, hb⟩ := hrel
      by_cases hlt : k < ts.length
      · obtain ⟨g, off, rfl, hgl, d0, d1, d2, d3, d4, d5, d6, d7, d8, d9⟩ := (HP.out.kept hb).letters hlt
        have HT : Hid (ts.take (k + 1) = ts.take k ++ [ts[k]]) := Lib.hid (List.take_succ_eq_append_getElem hlt)
        have HM : Hid (ts[k] ∈ ts) := Lib.hid (List.getElem_mem hlt)
        have HHK := Lib.hid ((HH.out ts[k] (List.getElem_mem hlt)).kept hb)
        generalize ts[k] = t at *
        obtain ⟨kd, nn, ba, bc, bs, ⟨xs, xa, xc, xl, xb, xe, xk, us, ua, uc, ul, ub, ue, uk⟩, la, lc, ls⟩ := t
        dsimp only at d0 d1 d2 d3 d4 d5 d6 d7 d8 d9
        have hbc := HHK.out.bc
        have hlc := HHK.out.lc
        dsimp only at hbc hlc
        unfold maxLen at hbc hlc
        obtain ⟨q1, q2⟩ := hbc
        obtain ⟨q3, q4⟩ := hlc
        have HBW := Lib.hid hb
        obtain ⟨W1, hW1⟩ : ∃ W1, W1 = wr.alloc (.cells #[.int .i64 kd, .int .i64 nn, .slice ba bs.length bc, .bool xs, .slice xa xl.length xc, .slice xb xk.length xe, .bool us, .slice ua ul.length uc, .slice ub uk.length ue, .slice la ls.length lc] 40) := ⟨_, rfl⟩
        have hb1 : Below wr.heap.size wr W1 := by rw [hW1]; exact (Below.refl _ _).alloc (Nat.le_refl _) _
        have hW1b : W1.heap[wr.heap.size]? = some (.cells #[.int .i64 kd, .int .i64 nn, .slice ba bs.length bc, .bool xs, .slice xa xl.length xc, .slice xb xk.length xe, .bool us, .slice ua ul.length uc, .slice ub uk.length ue, .slice la ls.length lc] 40 (0, 0)) := by rw [hW1]; exact heap_alloc_new wr _
        have HB1 := Lib.hid hb1
        have HE1 := Lib.hid (hb.trans (hb1.mono hb.size))
        have HW1 := Lib.hid hW1
        have HODD : Hid (Calls Tryz.prog 15 #[.slice (some ⟨W1.heap.size, 0, none⟩) 1 1] (W1.alloc (.cells #[.bool xs, .slice xa xl.length xc, .slice xb xk.length xe, .bool us, .slice ua ul.length uc, .slice ub uk.length ue] 37)) (GivesB ([(⟨xs, xa, xc, xl, xb, xe, xk, us, ua, uc, ul, ub, ue, uk⟩ : HD)].any oddE) (W1.alloc (.cells #[.bool xs, .slice xa xl.length xc, .slice xb xk.length xe, .bool us, .slice ua ul.length uc, .slice ub uk.length ue] 37)))) := Lib.hid (by
          have hbb := (Below.refl W1.heap.size W1).alloc (Nat.le_refl _) (.cells #[.bool xs, .slice xa xl.length xc, .slice xb xk.length xe, .bool us, .slice ua ul.length uc, .slice ub uk.length ue] 37)
          refine Odd_any W1.heap.size 1 [_] _ (Dels.one' (heap_alloc_new W1 _)) (fun d hd => ?_) (by simp) (by simp)
          simp only [List.mem_singleton] at hd
          subst hd
          exact (HHK.out.x.kept hb1).kept hbb)
        have HEO := Lib.hid ((Below.refl W1.heap.size W1).alloc (Nat.le_refl _) (.cells #[.bool xs, .slice xa xl.length xc, .slice xb xk.length xe, .bool us, .slice ua ul.length uc, .slice ub uk.length ue] 37))
        obtain ⟨o, ho⟩ : ∃ o, oddE ⟨xs, xa, xc, xl, xb, xe, xk, us, ua, uc, ul, ub, ue, uk⟩ = o := ⟨_, rfl⟩
        have HGT : Hid (greatT ⟨kd, nn, ba, bc, bs, ⟨xs, xa, xc, xl, xb, xe, xk, us, ua, uc, ul, ub, ue, uk⟩, la, lc, ls⟩ = (decide (300 < bs.length) || decide (60 < ls.length) || o)) := Lib.hid (by rw [← ho]; rfl)
        rw [List.any_cons, List.any_nil, ho, Bool.or_false] at HODD
        have HTRUE : Hid ((decide (300 < bs.length) || decide (60 < ls.length) || o) = true → ts.any greatT = true) := Lib.hid fun h => List.any_eq_true.2 ⟨_, HM.out, by rw [HGT.out]; exact h⟩
        have HFALSE : Hid ((decide (300 < bs.length) || decide (60 < ls.length) || o) = false → (ts.take (k + 1)).any greatT = false) := Lib.hid fun h => by
          rw [HT.out, List.any_append, HE.out]
          simp [HGT.out, h]
        obtain ⟨k0, k1, k2, k3, k4, k5, k6, k7, k8, k9⟩ := cells10 hW1b
        have hz1 : W1.heap.size = wr.heap.size + 1 := by rw [hW1]; simp
        clear hb hb1 hW1b hW1 HHK HM HT HE ho HGT
        by_cases h300 : 300 < bs.length
        · have hd3 : decide ((300 : Int) < (bs.length : Int)) = true := decide_eq_true (by omega)
          have HV := Lib.hid (HTRUE.out (by rw [decide_eq_true h300]; rfl))
          clear HTRUE HFALSE HODD HEO hz1
          go_wp2_with fail
          rw [← HW1.out]
          go_wp2_with fail
          go_ret
          exact ⟨by rw [HG.out, HV.out]; rfl, HE1.out⟩
        · have hd3 : decide ((300 : Int) < (bs.length : Int)) = false := decide_eq_false (by omega)
          by_cases h60 : 60 < ls.length
          · have hd6 : decide ((60 : Int) < (ls.length : Int)) = true := decide_eq_true (by omega)
            have HV := Lib.hid (HTRUE.out (by rw [decide_eq_true h60, Bool.or_true]; rfl))
            clear HTRUE HFALSE HODD HEO hz1
            go_wp2_with fail
            rw [← HW1.out]
            go_wp2_with fail
            go_ret
            exact ⟨by rw [HG.out, HV.out]; rfl, HE1.out⟩
          · have hd6 : decide ((60 : Int) < (ls.length : Int)) = false := decide_eq_false (by omega)
            have HV1 : Hid (o = true → ts.any greatT = true) := Lib.hid fun h => HTRUE.out (by rw [h, Bool.or_true])
            have HV2 : Hid (o = false → (ts.take (k + 1)).any greatT = false) := Lib.hid fun h => HFALSE.out (by rw [h, decide_eq_false h300, decide_eq_false h60]; rfl)
            clear HTRUE HFALSE
            rw [hz1] at HODD
            clear hz1
            go_wp2_with fail
            rw [← HW1.out]
            refine HODD.out.mono ?_
            rintro e w5 ⟨rfl, h5⟩
            have HF := Lib.hid (HE1.out.trans ((HEO.out.trans (h5.mono HEO.out.size)).mono HE1.out.size))
            clear h5 HODD HEO
            cases o
            case true =>
              have HV := Lib.hid (HV1.out rfl)
              clear HV1 HV2
              go_wp2_with fail
              go_ret
              exact ⟨by rw [HG.out, HV.out]; rfl, HF.out⟩
            case false =>
              have HV := Lib.hid (HV2.out rfl)
              clear HV1 HV2
              go_wp2_with fail
              go_roundw
              case rel => exact ⟨k + 1, by omega, by go_num, HV, HF.out⟩
              case measure => simp [intOf]; omega
      · obtain rfl : k = ts.length := by omega
        have HV : Hid (greatL ts = false) := Lib.hid (by rw [HG.out]; have := HE.out; rwa [List.take_length] at this)
        have HBW := Lib.hid hb
        clear hb HE
        go_wp2_with fail
        go_ret
        exact ⟨by rw [HV.out]; rfl, HBW.out⟩
end Go.Proofs.YtodedlnpokagfaaGreatDoor


/-
  law04: an Out and the document's row, side by side.
-/
set_option linter.unusedVariables false
set_option linter.unusedSimpArgs false
namespace Go.Proofs.YtodedlnpokagfaaGreatDoor
open Go.RowKit Rep

/-- An Out of bs in blocks S, and a row of os at a, all newer than w0. -/
structure PSt (w0 w : World) (o : Nat) (S : Nat → Prop) (bs : List Nat) (a : Option Addr) (c : Nat) (os : List Nat) : Prop where
  out : OutSt w o S bs
  lt : ∀ j, S j → j < w.heap.size
  ge : ∀ j, S j → w0.heap.size ≤ j
  own : OwnR 5 u8v 0 w a c os
  rge : ∀ j, blk a = some j → w0.heap.size ≤ j
  apart : ∀ j, blk a = some j → ¬ S j
  below : Below w0.heap.size w0 w
theorem OwnR.blt {w : World} {a : Option Addr} {c : Nat} {bs : List Nat} (h : OwnR 5 u8v 0 w a c bs) : ∀ j, blk a = some j → j < w.heap.size := by
  obtain ⟨_, ⟨rfl, _⟩ | ⟨g, rfl, _, hr⟩⟩ := h
  · intro j e; cases e
  · intro j e; cases e; exact hr.lt
theorem OwnR.chg {w w' : World} {S : Nat → Prop} {a : Option Addr} {c : Nat} {bs : List Nat} (h : OwnR 5 u8v 0 w a c bs) (hc : Chg S w w') (hn : ∀ j, blk a = some j → ¬ S j) : OwnR 5 u8v 0 w' a c bs := by
  obtain ⟨q1, q2 | ⟨g, rfl, hg, hr⟩⟩ := h
  · exact ⟨q1, .inl q2⟩
  · exact ⟨q1, .inr ⟨g, rfl, hg, hr.of_block (hc.block _ hr.lt (hn g rfl))⟩⟩
theorem Chg.below {B : Nat} {w w' : World} {S : Nat → Prop} (h : Chg S w w') (hB : B ≤ w.heap.size) (hS : ∀ j, S j → B ≤ j) : Below B w w' :=
  ⟨h.os, h.tape, h.output, h.size, fun k hk => h.block k (by omega) (fun e => by have := hS k e; omega)⟩
section
variable {w0 w w1 w2 : World} {o c c' : Nat} {S : Nat → Prop} {bs cs os ps : List Nat} {a a' : Option Addr}
theorem PSt.kept (h : PSt w0 w o S bs a c os) (hb : Below w.heap.size w w1) : PSt w0 w1 o S bs a c os :=
  ⟨h.out.kept hb, fun j hj => by have := h.lt j hj; have := hb.size; omega, h.ge, h.own.kept hb, h.rge, h.apart, h.below.trans (hb.mono h.below.size)⟩
/-- The Out is put to. -/
theorem PSt.puts {e : Ending} (h : PSt w0 w o S bs a c os) (k : PutsO o S cs w e w1) : PSt w0 w1 o (Plus S w w1) cs a c os := by
  obtain ⟨_, k1, k2⟩ := k
  have hs := h.below.size
  refine ⟨k1.out, Plus.lt h.lt k2.out.size, fun j hj => ?_, h.own.chg k2.out h.apart, h.rge, fun j hj hp => ?_, h.below.trans (k2.out.below hs h.ge)⟩
  · rcases hj with hj | hj
    · exact h.ge j hj
    · omega
  · rcases hp with hp | hp
    · exact h.apart j hj hp
    · have := h.own.blt j hj; omega
/-- The row is put to. -/
theorem PSt.putsR {e : Ending} (h : PSt w0 w o S bs a c os) (k : PutsR a ps w e w1) : ∃ a' c', e = .returned (.slice a' ps.length c') ∧ PSt w0 w1 o S bs a' c' ps := by
  obtain ⟨a', c', e1, k1, k2, k3⟩ := k
  have hs := h.below.size
  refine ⟨a', c', e1, h.out.past fun j hj => k2.out.block j (h.lt j hj) fun e => h.apart j e.symm hj, fun j hj => by have := h.lt j hj; have := k2.out.size; omega, h.ge, k1.out, fun j hj => ?_, fun j hj hS => ?_, h.below.grown k2.out hs (fun j e => h.rge j e)⟩
  · rcases k3.out j hj with h1 | h1
    · exact h.rge j h1
    · omega
  · rcases k3.out j hj with h1 | h1
    · exact h.apart j h1 hS
    · have := h.lt j hS; omega
/-- What was there at the beginning is apart. -/
theorem PSt.limbsP (h : PSt w0 w o S bs a c os) {b : Option Addr} {cb : Nat} {xs : List Nat} (hh : Handed w0 b cb xs) (hl : xs.length ≤ 1000) : LimbsP w S b cb xs := by
  refine ⟨hh.reads.kept h.below, ?_, hh.lim, hh.le, hh.cap, hl⟩
  by_cases e : xs = []
  · exact .inl e
  · refine .inr fun g e' hS => ?_
    obtain ⟨g', off, rfl, hg, _⟩ := hh.reads.open' (by rw [List.length_map]; exact List.length_pos_iff.2 e)
    obtain rfl : g' = g := by simpa [blk] using e'
    have := h.ge _ hS
    omega
theorem PSt.limbsR (h : PSt w0 w o S bs a c os) {b : Option Addr} {cb : Nat} {xs : List Nat} (hh : Handed w0 b cb xs) (hl : xs.length ≤ 1000) : LimbsR w a b cb xs := by
  refine ⟨hh.reads.kept h.below, ?_, hh.lim, hh.le, hh.cap, hl⟩
  by_cases e : xs = []
  · exact .inl e
  · refine .inr fun g e' => ?_
    obtain ⟨g', off, rfl, hg, _⟩ := hh.reads.open' (by rw [List.length_map]; exact List.length_pos_iff.2 e)
    obtain rfl : g' = g := by simpa [blk] using e'
    have hs := h.below.size
    exact ⟨fun e2 => by have := h.rge _ e2; omega, by omega⟩
/-- Whatever was read at the beginning lies apart from both. -/
theorem PSt.far (h : PSt w0 w o S bs a c os) {b : Option Addr} {f : Nat → Value} {xs : List Nat} (hr : Reads w0 b (xs.map f)) : (xs = [] ∨ ∀ g, blk b = some g → ¬ S g) ∧ (xs = [] ∨ ∀ g, blk b = some g → blk a ≠ some g) := by
  by_cases e : xs = []
  · exact ⟨.inl e, .inl e⟩
  · obtain ⟨g', off, rfl, hg, _⟩ := hr.open' (by rw [List.length_map]; exact List.length_pos_iff.2 e)
    refine ⟨.inr fun g e' hS => ?_, .inr fun g e' e2 => ?_⟩
    · obtain rfl : g' = g := by simpa [blk] using e'
      have := h.ge _ hS; omega
    · obtain rfl : g' = g := by simpa [blk] using e'
      have := h.rge _ e2; omega
end
/-- The truth of a thing. -/
def flB (n : Int) : Bool := bits BinOp.and IntKind.i64 n 1 == 1
/-- A thing as bytes. -/
def encT (t : TD) : List Nat :=
  if t.kind = 0 then Pk.encI t.n else if t.kind = 1 then Pk.encF (flB t.n) else if t.kind = 2 then Pk.encB t.bs
  else if t.kind = 3 then Pk.encR t.x.s t.x.xs t.x.ds else if t.kind = 4 then Pk.encR t.x.s t.x.xs t.x.ds ++ Pk.encR t.x.t t.x.ys t.x.es
  else if t.kind = 5 then Pk.encI t.ls.length ++ t.ls.flatMap (Pk.be 8) else []
end Go.Proofs.YtodedlnpokagfaaGreatDoor

