/- By program out of: LnVal, LnReals, LnSame. -/
import Derived.Test.YtpjeecahaeaajaaGreatDoorMffodng
set_option linter.unusedVariables false
set_option linter.unusedSimpArgs false
namespace Go.Proofs.YtpjeecahaeaajaaGreatDoor
open Go.RowKit Rep Ln
def ratL (d : RawR) : List Value := [.bool d.1, .slice d.2.1.1 d.2.1.2.1 d.2.1.2.2, .slice d.2.2.1 d.2.2.2.1 d.2.2.2.2]
structure RsAt (W : World) (a : Option Addr) (rs : List RawR) (qs : List Rat) : Prop where
 mem : rs = [] ∨ ∃ g off, a = some ⟨g, off, none⟩ ∧ ∀ (k : Nat) (d : RawR), rs[k]? = some d → W.rangeAt g (off + k * 3) (ratL d)
 len : rs.length = qs.length
 vals : ∀ (k : Nat) (d : RawR) (q : Rat), rs[k]? = some d → qs[k]? = some q → VQ q d W
section
variable {W W' : World} {a : Option Addr} {rs : List RawR} {qs : List Rat} {b n : Nat} {o p : Bool}
theorem RsAt.kept (h : RsAt W a rs qs) (hb : Below W.heap.size W W') : RsAt W' a rs qs := by
 refine ⟨?_, h.len, fun k d m h1 h2 => (h.vals k d m h1 h2).kept hb⟩
 rcases h.mem with e | ⟨g, off, e, hr⟩
 ·exact .inl e
 ·exact .inr ⟨g, off, e, fun k d hd => rangeAt_kept (hr k d hd) hb (rangeAt_lt (hr k d hd) (by simp [ratL]))⟩
theorem RsAt.bench (h : RsAt W a rs qs) (hB : Bench W b n o) (k : BR b n p W W') : RsAt W' a rs qs := by
 refine ⟨?_, h.len, fun i d m h1 h2 => (h.vals i d m h1 h2).benchL hB k.g⟩
 rcases h.mem with e | ⟨g, off, e, hr⟩
 ·exact .inl e
 ·refine .inr ⟨g, off, e, fun i d hd => rangeAt_grown (hr i d hd) k.g ?_⟩
  rintro rfl
  have h3 := hr i d hd 2 _ rfl
  unfold Bench at hB
  simp only [World.cell?, hB] at h3
  simp at h3
theorem RsAt.get (h : RsAt W a rs qs) {k : Nat} (hk : k < qs.length) : ∃ s z1 m1 k1 z2 m2 k2 q g off, qs[k]? = some q ∧ a = some ⟨g, off, none⟩ ∧ VQ q (s, (z1, m1, k1), (z2, m2, k2)) W ∧ W.cell? ⟨g, off + k * 3, none⟩ = some (.bool s) ∧ W.cell? ⟨g, off + k * 3 + 1, none⟩ = some (.slice z1 m1 k1) ∧ W.cell? ⟨g, off + k * 3 + 2, none⟩ = some (.slice z2 m2 k2) := by
 have hk2 : k < rs.length := by rw [h.len]; exact hk
 have hd : rs[k]? = some rs[k] := List.getElem?_eq_getElem hk2
 have hm : qs[k]? = some qs[k] := List.getElem?_eq_getElem hk
 rcases h.mem with e | ⟨g, off, e, hr⟩
 ·rw [e] at hk2; simp at hk2
 ·have hv := h.vals k _ _ hd hm
  have h3 := hr k _ hd
  clear hd
  revert hv h3
  generalize rs[k] = d
  intro hv h3
  obtain ⟨s, ⟨z1, m1, k1⟩, ⟨z2, m2, k2⟩⟩ := d
  exact ⟨s, z1, m1, k1, z2, m2, k2, _, g, off, hm, e, hv, h3 0 _ rfl, h3 1 _ rfl, h3 2 _ rfl⟩
end
def badV (n : Nat) (v : Int) : Bool := decide (v < 0) || decide ((n : Int) ≤ v)
def badM (n : Nat) (ms : List Mo) : Bool := ms.any fun x => badV n x.1
def errI (bad : Bool) : Int := if bad = true then 2 else 0
def atQ (qs : List Rat) (v : Int) : Rat := qs.getD v.toNat 0
set_option maxRecDepth 100000 in
set_option maxHeartbeats 2000000 in
theorem bad_any {w : World} {b n c : Nat} {ra : Option Addr} (h : w.cell? ⟨b, 0, none⟩ = some (.slice ra n c)) (v : Int) (s : Bool) (z1 z2 : Option Addr) (m1 k1 m2 k2 : Nat) :
    Calls Tryz.prog 44 #[.agg #[.int .i64 v, .bool s, .slice z1 m1 k1, .slice z2 m2 k2], .pointer (some ⟨b, 0, none⟩)] w (GivesV (.bool (badV n v)) w) := by
 have hal := (Below.refl w.heap.size w).alloc (Nat.le_refl _) (.cells #[.int .i64 v, .bool s, .slice z1 m1 k1, .slice z2 m2 k2] 51)
 have h2 := cell_stay h hal
 have HB := Lib.hid hal
 clear hal h
 unfold badV
 cases h0 : decide (v < 0)
 case true =>
  have hv : v < 0 := of_decide_eq_true h0
  go_enter Tryz.func44, Tryz.ntmps44
  go_wp2_with fail
  go_ret
  exact GivesV.mk' rfl HB.out
 case false =>
  have hv : ¬ v < 0 := of_decide_eq_false h0
  cases h1 : decide ((n : Int) ≤ v)
  all_goals
   go_enter Tryz.func44, Tryz.ntmps44
   go_wp2_with fail
   go_ret
   exact GivesV.mk' rfl HB.out
def idxM (n : Nat) : List Mo → Int
 | [] => -1
 | x :: l => if badV n x.1 = true then 0 else if idxM n l < 0 then -1 else idxM n l + 1
theorem idxM_none {n : Nat} : ∀ {l : List Mo}, (∀ y ∈ l, badV n y.1 = false) → idxM n l = -1
 | [], _ => rfl
 | x :: l, h => by
  have ih := idxM_none (fun y hy => h y (List.mem_cons_of_mem _ hy))
  simp [idxM, h x (by simp), ih]
theorem idxM_at {n : Nat} : ∀ {l : List Mo} {k : Nat} {x : Mo}, (∀ y ∈ l.take k, badV n y.1 = false) → l[k]? = some x → badV n x.1 = true → idxM n l = (k : Int)
 | [], _, _, _, h, _ => by simp at h
 | y :: l, 0, x, _, h, hb => by simp at h; subst h; simp [idxM, hb]
 | y :: l, k + 1, x, ht, h, hb => by
  have ih := idxM_at (l := l) (k := k) (fun z hz => ht z (by simp [hz])) (by simpa using h) hb
  have h0 := ht y (by simp)
  simp only [idxM, h0, ih]
  rw [if_neg (by simp), if_neg (by omega)]
  omega
theorem idxM_any (n : Nat) : ∀ l : List Mo, decide (0 ≤ idxM n l) = badM n l
 | [] => rfl
 | x :: l => by
  have ih := idxM_any n l
  unfold badM at ih ⊢
  rw [List.any_cons]
  cases hb : badV n x.1
  ·rw [Bool.false_or, ← ih]
   simp only [idxM, hb]
   rw [if_neg (by simp)]
   split
   ·rw [decide_eq_false (by omega), decide_eq_false (by omega)]
   ·rw [decide_eq_true (by omega), decide_eq_true (by omega)]
  ·simp [idxM, hb]
section
variable {w : World} {b n : Nat}
set_option maxRecDepth 100000 in
set_option maxHeartbeats 2000000 in
theorem index_bad (hp : ∀ W, Below w.heap.size w W → ∀ (v : Int) (s : Bool) (z1 z2 : Option Addr) (m1 k1 m2 k2 : Nat), Calls Tryz.prog 44 #[.agg #[.int .i64 v, .bool s, .slice z1 m1 k1, .slice z2 m2 k2], .pointer (some ⟨b, 0, none⟩)] W (GivesV (.bool (badV n v)) W))
    {a : Option Addr} {rs : List RM} {ms : List Mo} {cp len : Nat} (hk : MsAt w a rs ms) (hl : ms.length = len) (hn : len ≤ 1000) :
    Calls Tryz.prog 72 #[.slice a len cp, .func (.func 44) #[] #[.pointer (some ⟨b, 0, none⟩)]] w (GivesV (.int .i64 (idxM n ms)) w) := by
 have HP := Lib.hid hp
 have HKK := Lib.hid hk
 have HN := Lib.hid hl
 clear hp hk hl
 go_enter Tryz.func72, Tryz.ntmps72
 go_wp2_with fail
 go_loopw [8] (fun (iv : Value) (wr : World) => ∃ k : Nat, k ≤ len ∧ iv = .int .i64 (k : Int) ∧ Hid (∀ y ∈ ms.take k, badV n y.1 = false) ∧ Hid (Below w.heap.size w wr)) (fun iv _ => len - (intOf iv).toNat)
 case atStart => exact ⟨0, Nat.zero_le _, rfl, Lib.hid (by simp), Lib.hid (Below.refl _ _)⟩
 case round =>
  obtain ⟨k, hkn, rfl, HE, HB⟩ := hrel
  by_cases hlt : k < len
  ·obtain ⟨d, x, g, off, hd, hx, rfl, hok, hr⟩ := (HKK.out.kept HB.out).get (k := k) (by rw [HN.out]; exact hlt)
   obtain ⟨v, s, z1, m1, k1, z2, m2, k2⟩ := d
   obtain ⟨hv, -⟩ := hok
   dsimp only at hv
   have e0 : wr.cell? ⟨g, off + k * 4, none⟩ = some (.int .i64 v) := hr 0 _ rfl
   have e1 : wr.cell? ⟨g, off + k * 4 + 1, none⟩ = some (.bool s) := hr 1 _ rfl
   have e2 : wr.cell? ⟨g, off + k * 4 + 2, none⟩ = some (.slice z1 m1 k1) := hr 2 _ rfl
   have e3 : wr.cell? ⟨g, off + k * 4 + 3, none⟩ = some (.slice z2 m2 k2) := hr 3 _ rfl
   have HG := Lib.hid hx
   have HVX := Lib.hid hv
   have HC := Lib.hid (HP.out wr HB.out v s z1 z2 m1 k1 m2 k2)
   have hki : (k : Int) < (len : Int) := by omega
   have hiw : wrap64 ((k : Int) + 1) = (k : Int) + 1 := IntWalk.wrap64_in _ (by omega)
   clear hd hx hr hv
   cases hq : badV n v with
   | true =>
    have HV := Lib.hid (idxM_at (n := n) HE.out HG.out (by rw [← HVX.out]; exact hq))
    rw [hq] at HC
    clear hq
    go_wp2_with fail
    refine HC.out.mono ?_
    rintro e w2 ⟨rfl, hb2⟩
    have HB2 := Lib.hid (HB.out.trans (hb2.mono HB.out.size))
    clear hb2 e0 e1 e2 e3
    go_wp2_with fail
    go_ret
    exact GivesV.mk' (by rw [HV.out]; rfl) HB2.out
   | false =>
    have HV : Hid (∀ y ∈ ms.take (k + 1), badV n y.1 = false) := Lib.hid (by
     rw [List.take_add_one, HG.out]
     intro y hy
     rcases List.mem_append.1 hy with hy | hy
     ·exact HE.out y hy
     ·have : y = x := by simpa using hy
      rw [this, ← HVX.out]; exact hq)
    rw [hq] at HC
    clear hq
    go_wp2_with fail
    refine HC.out.mono ?_
    rintro e w2 ⟨rfl, hb2⟩
    have HB2 := Lib.hid (HB.out.trans (hb2.mono HB.out.size))
    clear hb2 e0 e1 e2 e3
    go_wp2_with fail
    go_roundw
    case rel => exact ⟨k + 1, by omega, by go_num, HV, HB2⟩
    case measure => simp [intOf]; omega
  ·obtain rfl : k = len := by omega
   have HV : Hid (idxM n ms = -1) := Lib.hid (idxM_none (by have := HE.out; rw [List.take_of_length_le (by rw [HN.out]; exact Nat.le_refl _)] at this; exact this))
   go_wp2_with fail
   go_ret
   exact GivesV.mk' (by rw [HV.out]; rfl) HB.out
theorem contains_bad (hp : ∀ W, Below w.heap.size w W → ∀ (v : Int) (s : Bool) (z1 z2 : Option Addr) (m1 k1 m2 k2 : Nat), Calls Tryz.prog 44 #[.agg #[.int .i64 v, .bool s, .slice z1 m1 k1, .slice z2 m2 k2], .pointer (some ⟨b, 0, none⟩)] W (GivesV (.bool (badV n v)) W))
    {a : Option Addr} {rs : List RM} {ms : List Mo} {cp len : Nat} (hk : MsAt w a rs ms) (hl : ms.length = len) (hn : len ≤ 1000) :
    Calls Tryz.prog 45 #[.slice a len cp, .func (.func 44) #[] #[.pointer (some ⟨b, 0, none⟩)]] w (GivesV (.bool (badM n ms)) w) := by
 have HI := Lib.hid (index_bad (cp := cp) hp hk hl hn)
 have he := idxM_any n ms
 rw [← he]
 generalize idxM n ms = x at *
 clear hp hk he hl hn
 go_enter Tryz.func45, Tryz.ntmps45
 go_wp2_with fail
 refine HI.out.mono ?_
 rintro e w' ⟨rfl, hb⟩
 have HB := Lib.hid hb
 clear hb
 go_wp2_with fail
 go_ret
 exact GivesV.mk' rfl HB.out
end
theorem sl_apart {W : World} {g i b n : Nat} {o : Bool} {a : Option Addr} {l c : Nat} (h : W.cell? ⟨g, i, none⟩ = some (.slice a l c)) (hB : Bench W b n o) : g ≠ b := by
 rintro rfl
 unfold Bench at hB
 simp only [World.cell?, hB] at h
 rcases i with _ | _ | i <;> simp at h
theorem atQ_sz {qs : List Rat} (h : ∀ q ∈ qs, szQ q ≤ 6) (v : Int) : szQ (atQ qs v) ≤ 6 := by
 unfold atQ
 rw [List.getD_eq_getElem?_getD]
 cases hq : qs[v.toNat]? with
 | none => show szQ 0 ≤ 6; rw [szQ_zero]; omega
 | some q => exact h q (List.mem_of_getElem? hq)
theorem dot_next {f : Int → Rat} {ms : List Mo} {k : Nat} {x : Mo} (h : ms[k]? = some x) : dot f (ms.take (k + 1)) = dot f (ms.take k) + x.2 * f x.1 := by
 rw [List.take_add_one, h, dot_app]
 simp [dot, Rat.add_zero]
theorem part_sz {f : Int → Rat} {c : Rat} {ms : List Mo} (hf : ∀ v, szQ (f v) ≤ 6) (hc : szQ c ≤ 24) (hm : ∀ x ∈ ms, szQ x.2 ≤ 24) : ∀ k, szQ (c + dot f (ms.take k)) ≤ 24 + 36 * k
 | 0 => by simp only [List.take_zero, dot, Rat.add_zero]; omega
 | k + 1 => by
  have ih := part_sz hf hc hm k
  cases hx : ms[k]? with
  | none =>
   have h1 : ms.length ≤ k := List.getElem?_eq_none_iff.1 hx
   rw [List.take_of_length_le h1] at ih
   rw [List.take_of_length_le (by omega)]
   omega
  | some x =>
   rw [dot_next hx, ← Rat.add_assoc]
   have h1 := szQ_add (c + dot f (ms.take k)) (x.2 * f x.1)
   have h2 := szQ_mul x.2 (f x.1)
   have h3 := hm x (List.mem_of_getElem? hx)
   have h4 := hf x.1
   omega
def GotW (b : Nat) (W5 : World) (bad : Bool) (q : Rat) (e : Ending) (W' : World) : Prop :=
 ∃ s z1 m1 k1 z2 m2 k2, e = .returned (.tuple #[.agg #[.bool s, .slice z1 m1 k1, .slice z2 m2 k2], .int .i64 (errI bad)]) ∧ Hid (BR b 1000 false W5 W') ∧ Hid (VQ (leftQ bad q) (s, (z1, m1, k1), (z2, m2, k2)) W')
structure VlAt (W1 : World) (b V : Nat) (q : Rat) (v : RawR) (W : World) : Prop where
 r : BR b 1000 false W1 W
 ge : W1.heap.size ≤ V
 blk : W.heap[V]? = some (.cells #[.bool v.1, .slice v.2.1.1 v.2.1.2.1 v.2.1.2.2, .slice v.2.2.1 v.2.2.2.1 v.2.2.2.2] 27 (0, 0))
 num : VQ q v W
theorem vl_store {W1 wm W : World} {b V : Nat} {q : Rat} {s : Bool} {z1 z2 : Option Addr} {m1 k1 m2 k2 : Nat} {t : Bool} {y1 y2 : Option Addr} {n1 j1 n2 j2 : Nat} (h0 : BR b 1000 false W1 wm ∧ Tab W1 ∧ b < W1.heap.size) (h : BR b 1000 false wm W) (hB : W.heap[V]? = some (.cells #[.bool t, .slice y1 n1 j1, .slice y2 n2 j2] 27 (0, 0))) (hge : W1.heap.size ≤ V) (hv : VQ q (s, (z1, m1, k1), (z2, m2, k2)) W) :
    VlAt W1 b V q (s, (z1, m1, k1), (z2, m2, k2)) (set3 W V s (.slice z1 m1 k1) (.slice z2 m2 k2)) := by
 obtain ⟨k1, hT, hb⟩ := h0
 refine ⟨?_, hge, set3_block hB _ _ _, hv.pastL (rat_noI hB).2 (set3_grown _ _ _ _ _)⟩
 unfold set3
 exact (((k1.trans h).setNew hT hb _ hge).setNew hT hb _ hge).setNew hT hb _ hge
set_option maxRecDepth 100000 in
set_option maxHeartbeats 16000000 in
theorem Value_any {w : World} {b : Nat} {c : Rat} {ms : List Mo} {ps : Bool} {pa pb : Option Addr} {pl pc pk pe : Nat} {a : Option Addr} {cp n : Nat} {rs : List RM} {ra : Option Addr} {rc m : Nat} {rr : List RawR} {qs : List Rat} (hB : Bench w b 1000 false) (hT : Tab w)
    (hp : PolyAt c ms (ps, (pa, pl, pc), (pb, pk, pe)) a rs w) (hr : RsAt w ra rr qs) (zc : szQ c ≤ 24) (zm : ∀ y ∈ ms, szQ y.2 ≤ 24) (zr : ∀ q ∈ qs, szQ q ≤ 6) (hn : n ≤ 24) (e1 : rs.length = n) (e2 : rr.length = m) (hm : m ≤ 50) :
    Calls Tryz.prog 22 #[.pointer (some ⟨b, 0, none⟩), .agg #[.bool ps, .slice pa pl pc, .slice pb pk pe, .slice a n cp], .slice ra m rc] w (GotW b w (badM m ms) (c + dot (atQ qs) ms)) := by
 obtain ⟨W0, hW0, hB0, b0, b1, b2, hsz⟩ := boxes3 w #[.bool ps, .slice pa pl pc, .slice pb pk pe, .slice a n cp] #[.slice ra m rc] #[.bool false, .slice none 0 0, .slice none 0 0] 30 31 27
 have hR0 : BR b 1000 false w W0 := (BR.refl hB hT).kept hB0
 have hl : ms.length = n := by rw [← e1, hp.ms.len]
 have hbc : W0.cell? ⟨w.heap.size + 1, 0, none⟩ = some (.slice ra m rc) := by simp [World.cell?, b1]
 have HCT := Lib.hid (contains_bad (cp := cp) (fun W h v s z1 z2 m1 k1 m2 k2 => bad_any (cell_stay hbc h) v s z1 z2 m1 k1 m2 k2) (hp.kept hB0).ms hl (by omega))
 obtain ⟨bd, hbd⟩ : ∃ x, badM m ms = x := ⟨_, rfl⟩
 have HBD := Lib.hid hbd
 rw [hbd] at HCT ⊢
 have HZ := Lib.hid (And.intro zc (And.intro zm (And.intro zr (And.intro hn (And.intro e1 (And.intro e2 (And.intro hm hl)))))))
 have HPR := Lib.hid (And.intro (hp.kept hB0) (hr.kept hB0))
 have HR0 := Lib.hid (And.intro hR0 (And.intro hT (And.intro hB.lt hsz)))
 have HBK := Lib.hid (And.intro b0 (And.intro b1 b2))
 have HW0 := Lib.hid hW0
 obtain ⟨q0, q1, q2, q3, _⟩ := cellsL4 b0
 obtain ⟨s0, s1, s2, u0, u1, u2⟩ := cells3 b2
 rw [hW0] at q0 q1 q2 q3 s0 s1 s2 u0 u1 u2 hbc
 clear hbd hB hT hp hr zc zm zr e1 e2 hl hR0 hB0 b0 b1 b2 hsz hW0
 go_enter Tryz.func22, Tryz.ntmps22
 go_wp2_with fail
 rw [← HW0.out]
 refine HCT.out.mono ?_
 rintro e w1 ⟨rfl, hb1⟩
 clear q0 q1 q2 q3 s0 s1 s2 u0 u1 u2 hbc HCT
 have HR1 : Hid (BR b 1000 false w w1 ∧ BR b 1000 false w1 w1 ∧ w.heap.size + 1 + 1 + 1 ≤ w1.heap.size ∧ b < w.heap.size) := Lib.hid ⟨HR0.out.1.kept hb1, (HR0.out.1.kept hb1).self, by have := hb1.size; have := HR0.out.2.2.2; omega, HR0.out.2.2.1⟩
 have HPR1 := Lib.hid (And.intro (HPR.out.1.kept hb1) (HPR.out.2.kept hb1))
 have b0 := stayL HBK.out.1 hb1
 have b1 := stayL HBK.out.2.1 hb1
 have b2 := stayL HBK.out.2.2 hb1
 have HBK1 := Lib.hid (And.intro b0 (And.intro b1 b2))
 obtain ⟨q0, q1, q2, q3, _⟩ := cellsL4 b0
 obtain ⟨s0, s1, s2, u0, u1, u2⟩ := cells3 b2
 clear b0 b1 b2 hb1 HPR HBK
 cases bd
 case true =>
  have HE : Hid (GotW b w true (c + dot (atQ qs) ms) (.returned (.tuple #[.agg #[.bool false, .slice none 0 0, .slice none 0 0], .int .i64 2])) (set3 w1 (w.heap.size + 1 + 1) false (.slice none 0 0) (.slice none 0 0))) := Lib.hid (by
   refine ⟨_, _, _, _, _, _, _, rfl, Lib.hid ?_, Lib.hid (VQ.zero _)⟩
   have hb := HR1.out.2.2.2
   unfold set3
   exact ((HR1.out.1.setNew HR0.out.2.1 hb _ (by omega)).setNew HR0.out.2.1 hb _ (by omega)).setNew HR0.out.2.1 hb _ (by omega))
  have HC := Lib.hid (cells3 (set3_block HBK1.out.2.2 false (.slice none 0 0) (.slice none 0 0)))
  go_wp2_with fail
  clear q0 q1 q2 q3 s0 s1 s2 u0 u1 u2
  obtain ⟨x0, x1, x2, _⟩ := HC.out
  change bodyPost _ _ _ _ _ (set3 w1 (w.heap.size + 1 + 1) false (.slice none 0 0) (.slice none 0 0))
  exact bodyPost_ret (v := .tuple #[.agg #[.bool false, .slice none 0 0, .slice none 0 0], .int .i64 2]) (by simp [results, Tryz.results22, go_sem, x0, x1, x2]) rfl HE.out
 case false =>
 have hal := (Below.refl w1.heap.size w1).alloc (Nat.le_refl _) (.cells #[.bool ps, .slice pa pl pc, .slice pb pk pe] 27)
 obtain ⟨w2, hw2⟩ : ∃ X, X = w1.alloc (.cells #[.bool ps, .slice pa pl pc, .slice pb pk pe] 27) := ⟨_, rfl⟩
 have hkv := cells_of w1 #[.bool ps, .slice pa pl pc, .slice pb pk pe] 27
 rw [← hw2] at hal hkv
 obtain ⟨V, hV⟩ : ∃ V, w1.heap.size = V := ⟨_, rfl⟩
 have HVL : Hid (VlAt w1 b V (c + dot (atQ qs) (ms.take 0)) (ps, (pa, pl, pc), (pb, pk, pe)) w2) := Lib.hid ⟨HR1.out.2.1.kept hal, by omega, by rw [← hV]; exact hkv, by simp only [List.take_zero, dot, Rat.add_zero]; exact (HPR1.out.1.kept hal).num⟩
 have HS2 : Hid (w2.cell? ⟨w.heap.size, 3, none⟩ = some (.slice a n cp)) := Lib.hid (cell_stay q3 hal)
 have HW2 := Lib.hid hw2
 have HFS : Hid (∀ v, szQ (atQ qs v) ≤ 6) := Lib.hid (atQ_sz HZ.out.2.2.1)
 have q3b := HS2.out
 rw [hw2] at q3b
 clear hal hkv hw2
 go_wp2_with fail
 rw [← HW2.out]
 clear q0 q1 q2 q3 q3b s0 s1 s2 u0 u1 u2
 have HVV := Lib.hid hV
 clear hV
 generalize hf : atQ qs = f at *
 have HF := Lib.hid hf
 clear hf
 go_loopw [23] (fun (iv : Value) (wr : World) => ∃ k : Nat, k ≤ n ∧ iv = .int .i64 (k : Int) ∧ ∃ r, Hid (VlAt w1 b V (c + dot f (ms.take k)) r wr)) (fun iv _ => n - (intOf iv).toNat)
 case atStart => exact ⟨0, Nat.zero_le _, rfl, _, HVL⟩
 case round =>
  obtain ⟨k, hkn, rfl, ⟨vs, ⟨va, vl, vc⟩, ⟨vb, vk, ve⟩⟩, HV⟩ := hrel
  by_cases hlt : k < n
  ·obtain ⟨d, x, g, off, hd, hx, hga, hok, hcell⟩ := HPR1.out.1.ms.get (k := k) (by rw [HZ.out.2.2.2.2.2.2.2]; exact hlt)
   have hin : 0 ≤ x.1 ∧ x.1 < (m : Int) := by
    have h1 := HBD.out
    unfold badM at h1
    rw [List.any_eq_false] at h1
    have h2 := h1 x (List.mem_of_getElem? hx)
    unfold badV at h2
    simp at h2
    omega
   obtain ⟨j, hj⟩ : ∃ j : Nat, x.1 = (j : Int) := ⟨x.1.toNat, by omega⟩
   have hjm : j < m := by omega
   have hql : qs.length = m := by rw [← HPR1.out.2.len]; exact HZ.out.2.2.2.2.2.1
   obtain ⟨es, ea, el, ec, eb, ek, ee, q, rg, ro, hqq, hra, hvq, r0, r1, r2⟩ := HPR1.out.2.get (k := j) (by rw [hql]; exact hjm)
   have hfx : f x.1 = q := by
    rw [← HF.out, hj]
    unfold atQ
    rw [List.getD_eq_getElem?_getD, Int.toNat_natCast, hqq]
    rfl
   obtain ⟨v, ds, da, dl, dc, db, dk, de⟩ := d
   obtain ⟨hv, hq⟩ := hok
   dsimp only [RM.raw] at hv hq hga
   obtain rfl : v = (j : Int) := by rw [hv, hj]
   subst hga hra
   have hgb := bench_apart hcell HR1.out.2.1.bench
   have hrb := sl_apart r1 HR1.out.2.1.bench
   have hbr := HV.out.r
   have e0 : wr.cell? ⟨g, off + k * 4, none⟩ = some (.int .i64 (j : Int)) := hbr.cell (hcell 0 _ rfl) hgb
   have e1 : wr.cell? ⟨g, off + k * 4 + 1, none⟩ = some (.bool ds) := hbr.cell (hcell 1 _ rfl) hgb
   have e2 : wr.cell? ⟨g, off + k * 4 + 2, none⟩ = some (.slice da dl dc) := hbr.cell (hcell 2 _ rfl) hgb
   have e3 : wr.cell? ⟨g, off + k * 4 + 3, none⟩ = some (.slice db dk de) := hbr.cell (hcell 3 _ rfl) hgb
   have hal := (Below.refl wr.heap.size wr).alloc (Nat.le_refl _) (.cells #[.int .i64 (j : Int), .bool ds, .slice da dl dc, .slice db dk de] 51)
   obtain ⟨wm, hwm⟩ : ∃ X, X = wr.alloc (.cells #[.int .i64 (j : Int), .bool ds, .slice da dl dc, .slice db dk de] 51) := ⟨_, rfl⟩
   have hkm := cells_of wr #[.int .i64 (j : Int), .bool ds, .slice da dl dc, .slice db dk de] 51
   rw [← hwm] at hal hkm
   have hbm := hbr.kept hal
   have hlt1 : b < w1.heap.size := HR1.out.2.1.bench.lt
   have hws : w1.heap.size ≤ V ∧ V < wr.heap.size := ⟨HV.out.ge, (Array.getElem?_eq_some_iff.1 HV.out.blk).1⟩
   have hrg : rg < w1.heap.size := World.block_lt_of_cell? _ _ r1
   have HBM := Lib.hid hbm
   have HW1 := Lib.hid (And.intro hbm (And.intro HR1.out.2.1.tab hlt1))
   have HGE := Lib.hid HV.out.ge
   have HVB : Hid (∀ W, BR b 1000 false wm W → W.heap[V]? = some (.cells #[.bool vs, .slice va vl vc, .slice vb vk ve] 27 (0, 0))) := Lib.hid fun W h => h.block (stayL HV.out.blk hal) (by omega)
   have hb1 := HBK1.out.2.1
   have hsm : w.heap.size + 1 < w1.heap.size := (Array.getElem?_eq_some_iff.1 hb1).1
   have hbw := HR1.out.2.2.2
   have HKS2 : Hid (∀ W, BR b 1000 false wm W → (fun w' => (w'.cell? ⟨wr.heap.size, 0, none⟩ = some (.int .i64 (j : Int)) ∧ w'.cell? ⟨wr.heap.size, 1, none⟩ = some (.bool ds) ∧ w'.cell? ⟨wr.heap.size, 2, none⟩ = some (.slice da dl dc) ∧ w'.cell? ⟨wr.heap.size, 3, none⟩ = some (.slice db dk de)) ∧ w'.cell? ⟨w.heap.size + 1, 0, none⟩ = some (.slice (some ⟨rg, ro, none⟩) m rc) ∧ w'.cell? ⟨rg, ro + j * 3, none⟩ = some (.bool es) ∧ w'.cell? ⟨rg, ro + j * 3 + 1, none⟩ = some (.slice ea el ec) ∧ w'.cell? ⟨rg, ro + j * 3 + 2, none⟩ = some (.slice eb ek ee)) W) := Lib.hid fun W h => by
    obtain ⟨x0, x1, x2, x3, _⟩ := cellsL4 (h.block hkm (by omega))
    have hh := hbm.trans h
    have ht : w1.cell? ⟨w.heap.size + 1, 0, none⟩ = some (.slice (some ⟨rg, ro, none⟩) m rc) := by simp [World.cell?, hb1]
    exact ⟨⟨x0, x1, x2, x3⟩, hh.cell ht (by omega), hh.cell r0 hrb, hh.cell r1 hrb, hh.cell r2 hrb⟩
   have HKS : Hid (∀ W s v1 v2, BR b 1000 false wm W → (fun w' => (w'.cell? ⟨wr.heap.size, 0, none⟩ = some (.int .i64 (j : Int)) ∧ w'.cell? ⟨wr.heap.size, 1, none⟩ = some (.bool ds) ∧ w'.cell? ⟨wr.heap.size, 2, none⟩ = some (.slice da dl dc) ∧ w'.cell? ⟨wr.heap.size, 3, none⟩ = some (.slice db dk de)) ∧ w'.cell? ⟨w.heap.size + 1, 0, none⟩ = some (.slice (some ⟨rg, ro, none⟩) m rc) ∧ w'.cell? ⟨rg, ro + j * 3, none⟩ = some (.bool es) ∧ w'.cell? ⟨rg, ro + j * 3 + 1, none⟩ = some (.slice ea el ec) ∧ w'.cell? ⟨rg, ro + j * 3 + 2, none⟩ = some (.slice eb ek ee)) (set3 W V s v1 v2)) := Lib.hid fun W s v1 v2 h => by
    obtain ⟨⟨x0, x1, x2, x3⟩, x4, x5, x6, x7⟩ := HKS2.out W h
    exact ⟨⟨set3_other x0 (by omega), set3_other x1 (by omega), set3_other x2 (by omega), set3_other x3 (by omega)⟩, set3_other x4 (by omega), set3_other x5 (by omega), set3_other x6 (by omega), set3_other x7 (by omega)⟩
   have hsz1 : szQ x.2 ≤ 24 := HZ.out.2.1 x (List.mem_of_getElem? hx)
   have hsz2 : szQ q ≤ 6 := HZ.out.2.2.1 q (List.mem_of_getElem? hqq)
   have hps := part_sz HFS.out HZ.out.1 HZ.out.2.1
   have HC37 : Hid (∀ W, BR b 1000 false wm W → Calls Tryz.prog 31 #[.pointer (some ⟨b, 0, none⟩), .agg #[.bool ds, .slice da dl dc, .slice db dk de], .agg #[.bool es, .slice ea el ec, .slice eb ek ee]] W (GotO b 1000 false W (x.2 * f x.1))) := Lib.hid fun W h => by
    have hh := hbm.trans h
    have := gotO_mul h.self (hq.benchL HR1.out.2.1.bench hh.g) (hvq.benchL HR1.out.2.1.bench hh.g) (by omega) (by omega)
    rw [ov_small (by have := szQ_mul x.2 q; omega)] at this
    rw [hfx]
    exact this
   have HC38 : Hid (∀ W s z1 m1 k1 z2 m2 k2, BR b 1000 false wm W → VQ (leftQ false (x.2 * f x.1)) (s, (z1, m1, k1), (z2, m2, k2)) W → Calls Tryz.prog 30 #[.pointer (some ⟨b, 0, none⟩), .agg #[.bool vs, .slice va vl vc, .slice vb vk ve], .agg #[.bool s, .slice z1 m1 k1, .slice z2 m2 k2]] W (GotO b 1000 false W (c + dot f (ms.take k) + x.2 * f x.1))) := Lib.hid fun W s z1 m1 k1 z2 m2 k2 h hv2 => by
    have hpk := hps k
    have := gotO_add (q := c + dot f (ms.take k)) (r := x.2 * f x.1) h.self ((HV.out.num.kept hal).benchL hbm.bench h.g) hv2 (by omega) (by have := szQ_mul x.2 q; rw [hfx]; omega)
    rw [ov_small (by have := hps (k + 1); rw [dot_next hx, ← Rat.add_assoc] at this; omega)] at this
    exact this
   have HX : Hid (ms[k]? = some x) := Lib.hid hx
   have HWM := Lib.hid hwm
   have hki : (k : Int) < (n : Int) := by omega
   have hji : (j : Int) < (m : Int) := by omega
   have hiw : wrap64 ((k : Int) + 1) = (k : Int) + 1 := IntWalk.wrap64_in _ (by omega)
   clear hd hx hin hj hql hqq hvq r0 r1 r2 hfx hv hq hcell hgb hrb hbr hal hkm hbm hlt1 hws hrg hb1 hsm hbw hsz1 hsz2 hps hwm
   go_wp2_with fail
   rw [← HWM.out]
   clear e0 e1 e2 e3
   refine wp_region_ex (ι := RawR × RawR) (fun i => [(27, .pointer (some ⟨b, 0, none⟩)), (28, .agg #[.bool vs, .slice va vl vc, .slice vb vk ve]), (29, .pointer (some ⟨b, 0, none⟩)), (30, .pointer (some ⟨wr.heap.size, 1, none⟩)), (31, .agg #[.bool ds, .slice da dl dc, .slice db dk de]), (32, .slice (some ⟨rg, ro, none⟩) m rc), (33, .pointer (some ⟨wr.heap.size, 0, none⟩)), (34, .int .i64 (j : Int)), (35, .pointer (some ⟨rg, ro + j * 3, none⟩)), (36, .agg #[.bool es, .slice ea el ec, .slice eb ek ee]), (37, .agg #[.bool i.1.1, .slice i.1.2.1.1 i.1.2.1.2.1 i.1.2.1.2.2, .slice i.1.2.2.1 i.1.2.2.2.1 i.1.2.2.2.2]), (38, .agg #[.bool i.2.1, .slice i.2.2.1.1 i.2.2.1.2.1 i.2.2.1.2.2, .slice i.2.2.2.1 i.2.2.2.2.1 i.2.2.2.2.2])]) (fun i W => VlAt w1 b V (c + dot f (ms.take k) + x.2 * f x.1) i.2 W) ?reg8 ?rest8
   case reg8 =>
    have hI : Hid (BR b 1000 false wm wm.drew) := Lib.hid (HBM.out.self.kept (below_drew wm))
    obtain ⟨wl, hw0⟩ : ∃ X, X = wm.drew := ⟨_, rfl⟩
    rw [← hw0] at hI
    refine wp_region_held_drew (S := (fun w' => (w'.cell? ⟨wr.heap.size, 0, none⟩ = some (.int .i64 (j : Int)) ∧ w'.cell? ⟨wr.heap.size, 1, none⟩ = some (.bool ds) ∧ w'.cell? ⟨wr.heap.size, 2, none⟩ = some (.slice da dl dc) ∧ w'.cell? ⟨wr.heap.size, 3, none⟩ = some (.slice db dk de)) ∧ w'.cell? ⟨w.heap.size + 1, 0, none⟩ = some (.slice (some ⟨rg, ro, none⟩) m rc) ∧ w'.cell? ⟨rg, ro + j * 3, none⟩ = some (.bool es) ∧ w'.cell? ⟨rg, ro + j * 3 + 1, none⟩ = some (.slice ea el ec) ∧ w'.cell? ⟨rg, ro + j * 3 + 2, none⟩ = some (.slice eb ek ee))) (by kernel_rfl) ?_ (fun hHeld => ?_)
    rotate_left 1
    rw [← hw0] at hHeld ⊢; clear hw0
    rotate_left 1
    ·rw [← hw0]; exact HKS2.out _ hI.out
    refine tkV 0 hHeld ?_
    try simp only [Act.put, zA, zB, zC, zD, zE, zF]
    refine tkV 2 hHeld ?_
    try simp only [Act.put, zA, zB, zC, zD, zE, zF]
    refine tkV 3 hHeld ?_
    try simp only [Act.put, zA, zB, zC, zD, zE, zF]
    refine tkV 4 hHeld ?_
    try simp only [Act.put, zA, zB, zC, zD, zE, zF]
    refine tkV 5 hHeld ?_
    try simp only [Act.put, zA, zB, zC, zD, zE, zF]
    refine tkV 6 hHeld ?_
    try simp only [Act.put, zA, zB, zC, zD, zE, zF]
    refine tkV 7 hHeld ?_
    try simp only [Act.put, zA, zB, zC, zD, zE, zF]
    refine tkV 8 hHeld ?_
    try simp only [Act.put, zA, zB, zC, zD, zE, zF]
    refine tkV 9 hHeld ?_
    try simp only [Act.put, zA, zB, zC, zD, zE, zF]
    refine rdy [1, 10] ?_
    refine AllReadyH.cons (by rfl) (fun K hK => ?_) ?_
    ·obtain ⟨x0, x1, x2, f0, f1, f2⟩ := cells3 (HVB.out _ hI.out)
     go_simp
     clear x0 x1 x2 f0 f1 f2
     refine hK.out _ _ ?_ (fun hHeld => ?_)
     ·exact HKS2.out _ hI.out
     clear hK K
     try simp only [Act.put, zA, zB, zC, zD, zE, zF]
     refine rdy [10] ?_
     refine AllReadyH.cons (by rfl) (fun K hK => ?_) AllReadyH.nil
     go_simp
     refine (HC37.out _ hI.out).mono ?_
     rintro e wl ⟨ts, ta, tl, tc, tb, tk, te, rfl, hr, hv⟩
     replace hI := Lib.hid (hI.out.trans hr.out)
     clear hr
     refine hK.out _ _ ?_ (fun hHeld => ?_)
     ·exact HKS2.out _ hI.out
     clear hK K
     try simp only [Act.put, zA, zB, zC, zD, zE, zF]
     refine rdy [11] ?_
     refine AllReadyH.cons (by rfl) (fun K hK => ?_) AllReadyH.nil
     go_simp
     refine (HC38.out _ _ _ _ _ _ _ _ hI.out hv.out).mono ?_
     rintro e wl ⟨us, ua, ul, uc, ub, uk, ue, rfl, hr, hu⟩
     replace hI := Lib.hid (hI.out.trans hr.out)
     clear hr hv
     refine hK.out _ _ ?_ (fun hHeld => ?_)
     ·exact HKS2.out _ hI.out
     clear hK K
     try simp only [Act.put, zA, zB, zC, zD, zE, zF]
     refine rdy [12] ?_
     refine AllReadyH.cons (by rfl) (fun K hK => ?_) AllReadyH.nil
     obtain ⟨x0, x1, x2, f0, f1, f2⟩ := cells3 (HVB.out _ hI.out)
     go_simp
     change K _ (set3 wl V us (.slice ua ul uc) (.slice ub uk ue))
     clear x0 x1 x2 f0 f1 f2
     have hE := Lib.hid (vl_store HW1.out hI.out (HVB.out _ hI.out) HGE.out hu.out)
     have hS9 := Lib.hid (HKS.out _ us (.slice ua ul uc) (.slice ub uk ue) hI.out)
     clear hI hu
     refine hK.out _ _ ?_ (fun hHeld => ?_)
     ·exact hS9.out
     clear hK K
     try simp only [Act.put, zA, zB, zC, zD, zE, zF]
     refine wpAnyH_done (by kernel_rfl) ?_ _
     exact ⟨((ts, (ta, tl, tc), (tb, tk, te)), (us, (ua, ul, uc), (ub, uk, ue))), by simp only [puts, Act.put, zA, zB, zC, zD, zE, zF], hE.out⟩
    refine AllReadyH.cons (by rfl) (fun K hK => ?_) ?_
    ·go_simp
     refine (HC37.out _ hI.out).mono ?_
     rintro e wl ⟨ts, ta, tl, tc, tb, tk, te, rfl, hr, hv⟩
     replace hI := Lib.hid (hI.out.trans hr.out)
     clear hr
     refine hK.out _ _ ?_ (fun hHeld => ?_)
     ·exact HKS2.out _ hI.out
     clear hK K
     try simp only [Act.put, zA, zB, zC, zD, zE, zF]
     refine rdy [1] ?_
     refine AllReadyH.cons (by rfl) (fun K hK => ?_) AllReadyH.nil
     obtain ⟨x0, x1, x2, f0, f1, f2⟩ := cells3 (HVB.out _ hI.out)
     go_simp
     clear x0 x1 x2 f0 f1 f2
     refine hK.out _ _ ?_ (fun hHeld => ?_)
     ·exact HKS2.out _ hI.out
     clear hK K
     try simp only [Act.put, zA, zB, zC, zD, zE, zF]
     refine rdy [11] ?_
     refine AllReadyH.cons (by rfl) (fun K hK => ?_) AllReadyH.nil
     go_simp
     refine (HC38.out _ _ _ _ _ _ _ _ hI.out hv.out).mono ?_
     rintro e wl ⟨us, ua, ul, uc, ub, uk, ue, rfl, hr, hu⟩
     replace hI := Lib.hid (hI.out.trans hr.out)
     clear hr hv
     refine hK.out _ _ ?_ (fun hHeld => ?_)
     ·exact HKS2.out _ hI.out
     clear hK K
     try simp only [Act.put, zA, zB, zC, zD, zE, zF]
     refine rdy [12] ?_
     refine AllReadyH.cons (by rfl) (fun K hK => ?_) AllReadyH.nil
     obtain ⟨x0, x1, x2, f0, f1, f2⟩ := cells3 (HVB.out _ hI.out)
     go_simp
     change K _ (set3 wl V us (.slice ua ul uc) (.slice ub uk ue))
     clear x0 x1 x2 f0 f1 f2
     have hE := Lib.hid (vl_store HW1.out hI.out (HVB.out _ hI.out) HGE.out hu.out)
     have hS9 := Lib.hid (HKS.out _ us (.slice ua ul uc) (.slice ub uk ue) hI.out)
     clear hI hu
     refine hK.out _ _ ?_ (fun hHeld => ?_)
     ·exact hS9.out
     clear hK K
     try simp only [Act.put, zA, zB, zC, zD, zE, zF]
     refine wpAnyH_done (by kernel_rfl) ?_ _
     exact ⟨((ts, (ta, tl, tc), (tb, tk, te)), (us, (ua, ul, uc), (ub, uk, ue))), by simp only [puts, Act.put, zA, zB, zC, zD, zE, zF], hE.out⟩
    exact AllReadyH.nil
   rintro ⟨⟨ts, ⟨ta, tl, tc⟩, ⟨tb, tk, te⟩⟩, ⟨us, ⟨ua, ul, uc⟩, ⟨ub, uk, ue⟩⟩⟩ w4 hS
   simp only [puts, Act.put, zA, zB, zC, zD, zE, zF]
   have HVN : Hid (VlAt w1 b V (c + dot f (ms.take (k + 1))) (us, (ua, ul, uc), (ub, uk, ue)) w4) := Lib.hid (by rw [dot_next HX.out, ← Rat.add_assoc]; exact hS)
   clear hS HC37 HC38 HKS HKS2 HVB HGE HW1 HBM HX HWM
   go_wp2_with fail
   go_roundw
   case rel => exact ⟨k + 1, by omega, by go_num, _, HVN⟩
   case measure => simp [intOf]; omega
  ·obtain rfl : k = n := by omega
   have hfull : ms.take k = ms := List.take_of_length_le (by have := HZ.out.2.2.2.2.2.2.2; omega)
   have hps := part_sz HFS.out HZ.out.1 HZ.out.2.1 k
   rw [hfull] at HV hps
   have HAN := answer_any HV.out.r.bench HV.out.r.tab HV.out.num (by omega)
   rw [ov_small (by omega)] at HAN
   have HANH := Lib.hid HAN
   have hws : w1.heap.size ≤ V ∧ b < w1.heap.size ∧ w.heap.size + 1 + 1 < w1.heap.size := ⟨HV.out.ge, HR1.out.2.1.bench.lt, by have := HR1.out.2.2.1; omega⟩
   have HWS := Lib.hid (And.intro hws HR1.out.2.2.2)
   obtain ⟨x0, x1, x2, f0, f1, f2⟩ := cells3 HV.out.blk
   clear HAN hfull hps hws
   go_wp2_with fail
   refine HANH.out.mono ?_
   rintro e w3 ⟨ks, ka, kl, kc, kb, kk, ke, rfl, hr3, hv3⟩
   clear x0 x1 x2 f0 f1 f2 HANH
   have hv : VQ (c + dot f ms) (ks, (ka, kl, kc), (kb, kk, ke)) w3 := hv3.out.ok rfl
   have hr3' : BR b 1000 false wr w3 := hr3.out
   have hwr : BR b 1000 false w1 w3 := HV.out.r.trans hr3'
   have hb3 := hr3'.block HV.out.blk (by have := HWS.out; omega)
   have hR3 : w3.heap[w.heap.size + 1 + 1]? = _ := hwr.block HBK1.out.2.2 (by have := HWS.out; omega)
   have hgV := set3_grown w3 V ks (.slice ka kl kc) (.slice kb kk ke)
   have hTw := HR0.out.2.1
   have hwW : BR b 1000 false w (set3 w3 V ks (.slice ka kl kc) (.slice kb kk ke)) := by
    have h1 := HR1.out.1.trans hwr
    have h2 := HWS.out
    have h3 := HR1.out.1.size
    unfold set3
    exact ((h1.setNew hTw h2.2 _ (by omega)).setNew hTw h2.2 _ (by omega)).setNew hTw h2.2 _ (by omega)
   have hR4 := (hgV.block _ (Array.getElem?_eq_some_iff.1 hR3).1 (by have := HWS.out; simp; omega)).trans hR3
   have hv4 : VQ (c + dot f ms) (ks, (ka, kl, kc), (kb, kk, ke)) (set3 w3 V ks (.slice ka kl kc) (.slice kb kk ke)) := hv.pastL (rat_noI hb3).2 hgV
   have HOV := Lib.hid (over_any (set3 w3 V ks (.slice ka kl kc) (.slice kb kk ke)) b 1000 false hwW.bench)
   have HC5 := Lib.hid (And.intro (cells3 (set3_block hb3 ks (.slice ka kl kc) (.slice kb kk ke))) (cells3 hR4))
   have HE : Hid (GotW b w false (c + dot f ms) (.returned (.tuple #[.agg #[.bool ks, .slice ka kl kc, .slice kb kk ke], .int .i64 0])) (set3 (set3 w3 V ks (.slice ka kl kc) (.slice kb kk ke)) (w.heap.size + 1 + 1) ks (.slice ka kl kc) (.slice kb kk ke))) := Lib.hid (by
    refine ⟨_, _, _, _, _, _, _, rfl, Lib.hid ?_, Lib.hid (hv4.pastL (rat_noI hR4).2 (set3_grown _ _ _ _ _))⟩
    have h2 := HWS.out
    generalize set3 w3 V ks (.slice ka kl kc) (.slice kb kk ke) = X at hwW ⊢
    unfold set3
    exact ((hwW.setNew hTw h2.2 _ (by omega)).setNew hTw h2.2 _ (by omega)).setNew hTw h2.2 _ (by omega))
   have HC6 := Lib.hid (cells3 (set3_block hR4 ks (.slice ka kl kc) (.slice kb kk ke)))
   obtain ⟨x0, x1, x2, f0, f1, f2⟩ := cells3 hb3
   rw [HF.out] at *
   clear hv hr3 hv3 hr3' hwr hb3 hR3 hgV hTw hwW hR4 hv4
   go_wp2_with fail
   refine HOV.out.mono ?_
   rintro e w4 ⟨rfl, hw4⟩
   clear x0 x1 x2 f0 f1 f2 HOV
   obtain ⟨⟨x0, x1, x2, f0, f1, f2⟩, y0, y1, y2, g0, g1, g2⟩ := HC5.out
   obtain ⟨z0, z1, z2, _⟩ := HC6.out
   rw [hw4] at x0 x1 x2 f0 f1 f2 y0 y1 y2 g0 g1 g2 z0 z1 z2 HE
   clear hw4 HC5 HC6
   go_wp2_with fail
   clear x0 x1 x2 f0 f1 f2 y0 y1 y2 g0 g1 g2
   change bodyPost _ _ _ _ _ (set3 w4 (w.heap.size + 1 + 1) ks (.slice ka kl kc) (.slice kb kk ke))
   exact bodyPost_ret (v := .tuple #[.agg #[.bool ks, .slice ka kl kc, .slice kb kk ke], .int .i64 0]) (by simp [results, Tryz.results22, go_sem, z0, z1, z2]) rfl HE.out
end Go.Proofs.YtpjeecahaeaajaaGreatDoor

namespace Go.Proofs.YtpjeecahaeaajaaGreatDoor
open Go.RowKit Rep Ln
structure HQ where
 s : Bool
 a1 : Option Addr
 c1 : Nat
 xs : List Nat
 a2 : Option Addr
 c2 : Nat
 ds : List Nat
def HQ.raw (d : HQ) : RawR := (d.s, (d.a1, d.xs.length, d.c1), (d.a2, d.ds.length, d.c2))
def HQ.right (d : HQ) : Bool := rightB d.s d.xs d.ds
structure HQs (w : World) (a : Option Addr) (hs : List HQ) : Prop where
 mem : hs = [] ∨ ∃ g off, a = some ⟨g, off, none⟩ ∧ ∀ (k : Nat) (d : HQ), hs[k]? = some d → w.rangeAt g (off + k * 3) (ratL d.raw)
 nums : ∀ d ∈ hs, HandR w d.a1 d.c1 d.xs d.a2 d.c2 d.ds ∧ d.xs.length ≤ 2000000 ∧ d.ds.length ≤ 2000000
theorem great_in {hs : List HQ} {d : HQ} (h : d ∈ hs) (hd : 6 < d.xs.length ∨ 6 < d.ds.length) : greatB (hs.map HQ.raw) = true := by
 unfold greatB
 rw [List.any_eq_true]
 refine ⟨d.raw, List.mem_map.2 ⟨d, h, rfl⟩, ?_⟩
 rcases hd with hd | hd <;> simp [HQ.raw, hd]
section
variable {w w' : World} {a : Option Addr} {hs : List HQ}
theorem HQs.kept (h : HQs w a hs) (hb : Below w.heap.size w w') : HQs w' a hs := by
 refine ⟨?_, fun d hd => ⟨(h.nums d hd).1.kept hb, (h.nums d hd).2⟩⟩
 rcases h.mem with e | ⟨g, off, e, hr⟩
 ·exact .inl e
 ·exact .inr ⟨g, off, e, fun k d hd => rangeAt_kept (hr k d hd) hb (rangeAt_lt (hr k d hd) (by simp [ratL]))⟩
theorem HQs.get (h : HQs w a hs) {k : Nat} (hk : k < hs.length) : ∃ s a1 c1 xs a2 c2 ds g off, hs[k]? = some ⟨s, a1, c1, xs, a2, c2, ds⟩ ∧ a = some ⟨g, off, none⟩ ∧ (HandR w a1 c1 xs a2 c2 ds ∧ xs.length ≤ 2000000 ∧ ds.length ≤ 2000000) ∧ w.cell? ⟨g, off + k * 3, none⟩ = some (.bool s) ∧ w.cell? ⟨g, off + k * 3 + 1, none⟩ = some (.slice a1 xs.length c1) ∧ w.cell? ⟨g, off + k * 3 + 2, none⟩ = some (.slice a2 ds.length c2) := by
 have hd : hs[k]? = some hs[k] := List.getElem?_eq_getElem hk
 have hn := h.nums _ (List.mem_of_getElem? hd)
 rcases h.mem with e | ⟨g, off, e, hr⟩
 ·rw [e] at hk; simp at hk
 ·have h3 := hr k _ hd
  revert hd hn h3
  generalize hs[k] = d
  intro hd hn h3
  obtain ⟨s, a1, c1, xs, a2, c2, ds⟩ := d
  exact ⟨s, a1, c1, xs, a2, c2, ds, g, off, hd, e, hn, h3 0 _ rfl, h3 1 _ rfl, h3 2 _ rfl⟩
theorem HQs.rs (h : HQs w a hs) (hr : ∀ d ∈ hs, d.right = true) (hg : greatB (hs.map HQ.raw) = false) : ∃ rr qs, List.length rr = hs.length ∧ RsAt w a rr qs ∧ ∀ q ∈ qs, szQ q ≤ 6 := by
 have hall : ∀ d ∈ hs, VQ (qOf d.s d.xs d.ds) d.raw w ∧ szQ (qOf d.s d.xs d.ds) ≤ 6 := fun d hd => by
  have : ¬ (6 < d.xs.length ∨ 6 < d.ds.length) := fun hh => by
   rw [great_in hd hh] at hg
   cases hg
  exact vq_right (h.nums d hd).1 (hr d hd) (by omega) (by omega)
 refine ⟨hs.map HQ.raw, hs.map (fun d => qOf d.s d.xs d.ds), by simp, ⟨?_, by simp, fun k d q hd hq => ?_⟩, fun q hq => ?_⟩
 ·rcases h.mem with e | ⟨g, off, e, hr⟩
  ·exact .inl (by rw [e]; rfl)
  ·refine .inr ⟨g, off, e, fun k d hd => ?_⟩
   rw [List.getElem?_map] at hd
   obtain ⟨t, ht, rfl⟩ := Option.map_eq_some_iff.1 hd
   exact hr k t ht
 ·rw [List.getElem?_map] at hd hq
  obtain ⟨t, ht, rfl⟩ := Option.map_eq_some_iff.1 hd
  rw [ht] at hq
  simp at hq
  subst hq
  exact (hall t (List.mem_of_getElem? ht)).1
 ·obtain ⟨d, hd, rfl⟩ := List.mem_map.1 hq
  exact (hall d hd).2
end
theorem great_take {hs : List HQ} {k : Nat} {d : HQ} (h : hs[k]? = some d) (ht : greatB ((hs.take k).map HQ.raw) = false) (hd : ¬ 6 < d.xs.length) (he : ¬ 6 < d.ds.length) : greatB ((hs.take (k + 1)).map HQ.raw) = false := by
 rw [List.take_add_one, h]
 unfold greatB at ht ⊢
 simp only [Option.toList_some, List.map_append, List.any_append, ht, Bool.false_or]
 simp [HQ.raw, hd, he]
set_option maxRecDepth 100000 in
set_option maxHeartbeats 1000000 in
theorem GreatO_any {w : World} {ra : Option Addr} {rc n : Nat} {hs : List HQ} (hr : HQs w ra hs) (hn : hs.length = n) (hl : n ≤ 1000) :
    Calls Tryz.prog 11 #[.slice ra n rc] w (GivesV (.bool (greatB (hs.map HQ.raw))) w) := by
 have HR := Lib.hid hr
 have HN := Lib.hid hn
 obtain ⟨gb, hgb⟩ : ∃ g, greatB (hs.map HQ.raw) = g := ⟨_, rfl⟩
 have HGB := Lib.hid hgb
 rw [hgb]
 clear hr hn hgb
 go_enter Tryz.func11, Tryz.ntmps11
 go_wp2_with fail
 go_loopw [7] (fun i wr => ∃ k : Nat, k ≤ n ∧ i = .int .i64 (k : Int) ∧ Hid (greatB ((hs.take k).map HQ.raw) = false) ∧ Hid (Below w.heap.size w wr)) (fun i _ => n - (intOf i).toNat)
 case atStart => exact ⟨0, Nat.zero_le _, rfl, Lib.hid rfl, Lib.hid (Below.refl _ _)⟩
 case round =>
  obtain ⟨k, hk, rfl, HE, HB⟩ := hrel
  by_cases hlt : k < n
  ·obtain ⟨s, a1, e1, xs, a2, e2, ds, g, off, hd, rfl, hq, c0, c1, c2⟩ := HR.out.get (k := k) (by rw [HN.out]; exact hlt)
   have HM := Lib.hid (And.intro hd (List.mem_of_getElem? hd))
   have d0 := cell_stay c0 HB.out
   have d1 := cell_stay c1 HB.out
   have d2 := cell_stay c2 HB.out
   have hgr : g < wr.heap.size := World.block_lt_of_cell? _ _ d0
   have hki : (k : Int) < (n : Int) := by omega
   have hiw : wrap64 ((k : Int) + 1) = (k : Int) + 1 := IntWalk.wrap64_in _ (by omega)
   obtain ⟨l1, hl1⟩ : ∃ l, xs.length = l := ⟨_, rfl⟩
   obtain ⟨l2, hl2⟩ : ∃ l, ds.length = l := ⟨_, rfl⟩
   have HL := Lib.hid (And.intro hl1 hl2)
   rw [hl1] at d1
   rw [hl2] at d2
   clear hd hq c0 c1 c2 hl1 hl2
   by_cases q1 : 6 < l1
   ·have e3 : decide ((6 : Int) < (l1 : Int)) = true := decide_eq_true (by omega)
    have e4 : (6 : Int) < (l1 : Int) := by omega
    have HV : Hid (gb = true) := Lib.hid (by rw [← HGB.out]; exact great_in HM.out.2 (.inl (by dsimp only; rw [HL.out.1]; exact q1)))
    clear q1
    go_wp2_with fail
    go_ret
    exact GivesV.mk' (by rw [HV.out]; rfl) (HB.out.alloc HB.out.size _)
   ·have e3 : decide ((6 : Int) < (l1 : Int)) = false := decide_eq_false (by omega)
    have e4 : ¬ (6 : Int) < (l1 : Int) := by omega
    by_cases q2 : 6 < l2
    ·have e5 : decide ((6 : Int) < (l2 : Int)) = true := decide_eq_true (by omega)
     have e6 : (6 : Int) < (l2 : Int) := by omega
     have HV : Hid (gb = true) := Lib.hid (by rw [← HGB.out]; exact great_in HM.out.2 (.inr (by dsimp only; rw [HL.out.2]; exact q2)))
     clear q1 q2
     go_wp2_with fail
     go_ret
     exact GivesV.mk' (by rw [HV.out]; rfl) (HB.out.alloc HB.out.size _)
    ·have e5 : decide ((6 : Int) < (l2 : Int)) = false := decide_eq_false (by omega)
     have e6 : ¬ (6 : Int) < (l2 : Int) := by omega
     have HV := Lib.hid (great_take HM.out.1 HE.out (by dsimp only; rw [HL.out.1]; exact q1) (by dsimp only; rw [HL.out.2]; exact q2))
     clear q1 q2
     go_wp2_with fail
     go_roundw
     case rel => exact ⟨k + 1, by omega, by go_num, HV, Lib.hid (HB.out.alloc HB.out.size _)⟩
     case measure => simp [intOf]; omega
  ·obtain rfl : k = n := by omega
   have HV : Hid (gb = false) := Lib.hid (by
    have := HE.out
    rw [List.take_of_length_le (by have := HN.out; omega)] at this
    rw [← HGB.out]; exact this)
   go_wp2_with fail
   go_ret
   exact GivesV.mk' (by rw [HV.out]; rfl) HB.out
theorem right_take {hs : List HQ} {k : Nat} {d : HQ} (h : hs[k]? = some d) (ht : ∀ x ∈ hs.take k, x.right = true) (hd : d.right = true) : ∀ x ∈ hs.take (k + 1), x.right = true := by
 rw [List.take_add_one, h]
 intro x hx
 rcases List.mem_append.1 hx with hx | hx
 ·exact ht x hx
 ·have : x = d := by simpa using hx
  rw [this]; exact hd
end Go.Proofs.YtpjeecahaeaajaaGreatDoor

namespace Go.Proofs.YtpjeecahaeaajaaGreatDoor
open Go.RowKit Rep Ln
theorem cmpI_zero {a b : Nat} : (cmpI (a : Int) (b : Int) == 0) = decide (a = b) := by
 unfold cmpI
 by_cases h : a = b
 ·subst h; simp
 ·rw [decide_eq_false h]
  split
  ·rfl
  ·rw [if_neg (by omega)]; rfl
theorem cmp_e {W : World} {a b : Option Addr} {la lb ca cb n k : Nat} {x : Bool} (h1 : NumE W a la ca n) (h2 : NumE W b lb cb k) (hx : decide (n = k) = x) : Calls Tryz.prog 70 #[.slice a la ca, .slice b lb cb] W (fun e W' => ∃ c : Int, e = .returned (.int .i64 c) ∧ (c == 0) = x ∧ Hid (Below W.heap.size W W')) :=
 (cmpE h1 h2).mono fun e W' hg => ⟨_, hg.1, by rw [cmpI_zero, hx], Lib.hid hg.2⟩
set_option maxRecDepth 100000 in
set_option maxHeartbeats 2000000 in
theorem sameNum_any {w : World} {q r : Rat} {s t : Bool} {z1 z2 y1 y2 : Option Addr} {m1 k1 m2 k2 n1 j1 n2 j2 : Nat} (h : VQ q (s, (z1, m1, k1), (z2, m2, k2)) w) (g : VQ r (t, (y1, n1, j1), (y2, n2, j2)) w) (hq : szQ q ≤ 1000) (hr : szQ r ≤ 1000) :
    Calls Tryz.prog 40 #[.agg #[.bool s, .slice z1 m1 k1, .slice z2 m2 k2], .agg #[.bool t, .slice y1 n1 j1, .slice y2 n2 j2]] w (GivesV (.bool (decide (q = r))) w) := by
 obtain ⟨W0, hW0, hB0, b0, b1, hsz⟩ := boxes2 w #[.bool s, .slice z1 m1 k1, .slice z2 m2 k2] #[.bool t, .slice y1 n1 j1, .slice y2 n2 j2] 27 27
 have hv : decide (q = r) = ((s == t) && (decide (mgQ q = mgQ r) && decide (denN q.den = denN r.den))) := by
  have h0 := h.e0
  have g0 := g.e0
  dsimp only at h0 g0
  subst h0 g0
  by_cases e : q = r
  ·subst e; simp
  ·rw [decide_eq_false e]
   symm
   rw [Bool.eq_false_iff]
   intro hh
   simp only [Bool.and_eq_true, beq_iff_eq, decide_eq_true_eq] at hh
   exact e ((q_same q r).1 ⟨hh.1, by rw [hh.2.1], by rw [hh.2.2]⟩)
 obtain ⟨v, hvv⟩ : ∃ v, decide (q = r) = v := ⟨_, rfl⟩
 rw [hvv]
 rw [hvv] at hv
 have HN : Hid (∀ W, Below W0.heap.size W0 W → (NumE W z1 m1 k1 (mgQ q) ∧ NumE W y1 n1 j1 (mgQ r)) ∧ NumE W z2 m2 k2 (denN q.den) ∧ NumE W y2 n2 j2 (denN r.den)) := Lib.hid fun W hW => by
  have hh := hB0.trans (hW.mono hB0.size)
  unfold szQ at hq hr
  obtain ⟨-, e1, e2, l1⟩ := h.kept hh
  obtain ⟨-, e3, e4, l2⟩ := g.kept hh
  dsimp only at e1 e2 e3 e4 l1 l2
  subst e1 e2 e3 e4
  exact ⟨⟨NumE.of l1.num (by omega), NumE.of l2.num (by omega)⟩, NumE.of l1.den (by omega), NumE.of l2.den (by omega)⟩
 have HK : Hid (∀ W, Below W0.heap.size W0 W → (W.cell? ⟨w.heap.size, 1, none⟩ = some (.slice z1 m1 k1) ∧ W.cell? ⟨w.heap.size, 2, none⟩ = some (.slice z2 m2 k2)) ∧ W.cell? ⟨w.heap.size + 1, 1, none⟩ = some (.slice y1 n1 j1) ∧ W.cell? ⟨w.heap.size + 1, 2, none⟩ = some (.slice y2 n2 j2)) := Lib.hid fun W hW => by
  obtain ⟨_, x1, x2, _⟩ := cells3 (stayL b0 hW)
  obtain ⟨_, x3, x4, _⟩ := cells3 (stayL b1 hW)
  exact ⟨⟨x1, x2⟩, x3, x4⟩
 have HB := Lib.hid hB0
 have HW0 := Lib.hid hW0
 obtain ⟨p0, p1, p2, _⟩ := cells3 b0
 obtain ⟨q0, q1, q2, _⟩ := cells3 b1
 have HV := Lib.hid hv
 have HC1 := Lib.hid (cmp_e (HN.out _ (Below.refl _ _)).1.1 (HN.out _ (Below.refl _ _)).1.2 rfl)
 rw [hW0] at p0 p1 p2 q0 q1 q2
 clear hB0 b0 b1 hsz hv hvv h g hq hr hW0
 generalize decide (mgQ q = mgQ r) = u1 at *
 generalize hd2 : decide (denN q.den = denN r.den) = u2 at *
 have HD2 := Lib.hid hd2
 clear hd2
 cases hst : (s == t)
 case false =>
  have HE : Hid (GivesV (.bool v) w (.returned (.bool false)) W0) := Lib.hid ⟨by rw [HV.out, hst]; rfl, HB.out⟩
  go_enter Tryz.func40, Tryz.ntmps40
  go_wp2_with fail
  rw [← HW0.out]
  go_ret
  exact HE.out
 case true =>
 cases u1
 case false =>
  have HE : Hid (v = false) := Lib.hid (by rw [HV.out]; simp)
  go_enter Tryz.func40, Tryz.ntmps40
  go_wp2_with fail
  rw [← HW0.out]
  refine HC1.out.mono ?_
  rintro e w1 ⟨c, rfl, hc, hb1⟩
  have HB1 := Lib.hid (HB.out.trans (hb1.out.mono HB.out.size))
  clear hb1 HC1
  go_wp2_with fail
  go_ret
  exact GivesV.mk' (by rw [HE.out]; rfl) HB1.out
 case true =>
  have HE : Hid (v = u2) := Lib.hid (by rw [HV.out, hst]; simp)
  go_enter Tryz.func40, Tryz.ntmps40
  go_wp2_with fail
  rw [← HW0.out]
  refine HC1.out.mono ?_
  rintro e w1 ⟨c, rfl, hc, hb1⟩
  have HC2 := Lib.hid (cmp_e (HN.out _ hb1.out).2.1 (HN.out _ hb1.out).2.2 HD2.out)
  obtain ⟨⟨x1, x2⟩, x3, x4⟩ := HK.out _ hb1.out
  have HB1 := Lib.hid (HB.out.trans (hb1.out.mono HB.out.size))
  clear hb1 HC1 p0 p1 p2 q0 q1 q2
  go_wp2_with fail
  refine HC2.out.mono ?_
  rintro e w2 ⟨c2, rfl, hc2, hb2⟩
  have HB2 := Lib.hid (HB1.out.trans (hb2.out.mono HB1.out.size))
  clear hb2 HC2 x1 x2 x3 x4
  cases u2
  all_goals
   go_wp2_with fail
   go_ret
   exact GivesV.mk' (by rw [HE.out]; rfl) HB2.out
set_option maxRecDepth 100000 in
set_option maxHeartbeats 2000000 in
theorem sameMo_any {w : World} {v u : Int} {q r : Rat} {s t : Bool} {z1 z2 y1 y2 : Option Addr} {m1 k1 m2 k2 n1 j1 n2 j2 : Nat} (h : VQ q (s, (z1, m1, k1), (z2, m2, k2)) w) (g : VQ r (t, (y1, n1, j1), (y2, n2, j2)) w) (hq : szQ q ≤ 1000) (hr : szQ r ≤ 1000) :
    Calls Tryz.prog 42 #[.agg #[.int .i64 v, .bool s, .slice z1 m1 k1, .slice z2 m2 k2], .agg #[.int .i64 u, .bool t, .slice y1 n1 j1, .slice y2 n2 j2]] w (GivesV (.bool (decide (((v, q) : Mo) = (u, r)))) w) := by
 obtain ⟨W0, hW0, hB0, b0, b1, hsz⟩ := boxes2 w #[.int .i64 v, .bool s, .slice z1 m1 k1, .slice z2 m2 k2] #[.int .i64 u, .bool t, .slice y1 n1 j1, .slice y2 n2 j2] 51 51
 have HC := Lib.hid (sameNum_any (h.kept hB0) (g.kept hB0) hq hr)
 have hv : decide (((v, q) : Mo) = (u, r)) = (decide (v = u) && decide (q = r)) := by
  rw [← Bool.decide_and]
  exact decide_eq_decide.2 ⟨fun e => by injection e with e1 e2; exact ⟨e1, e2⟩, fun e => by rw [e.1, e.2]⟩
 have HB := Lib.hid hB0
 have HW0 := Lib.hid hW0
 obtain ⟨p0, p1, p2, p3, _⟩ := cellsL4 b0
 obtain ⟨q0, q1, q2, q3, _⟩ := cellsL4 b1
 rw [hW0] at p0 p1 p2 p3 q0 q1 q2 q3
 rw [hv]
 generalize decide (q = r) = d at *
 clear hB0 b0 b1 hsz h g hq hr hW0 hv
 by_cases huv : v = u
 ·subst huv
  have HE : Hid ((decide (v = v) && d) = d) := Lib.hid (by simp)
  rw [HE.out]
  go_enter Tryz.func42, Tryz.ntmps42
  go_wp2_with fail
  rw [← HW0.out]
  refine HC.out.mono ?_
  rintro e w1 ⟨rfl, hb1⟩
  have HB1 := Lib.hid (HB.out.trans (hb1.mono HB.out.size))
  clear hb1 HC
  go_wp2_with fail
  go_ret
  exact GivesV.mk' rfl HB1.out
 ·have HE : Hid ((decide (v = u) && d) = false) := Lib.hid (by rw [decide_eq_false huv]; rfl)
  rw [HE.out]
  have huv2 : (v == u) = false := by simpa using huv
  go_enter Tryz.func42, Tryz.ntmps42
  go_wp2_with fail
  rw [← HW0.out]
  go_ret
  exact GivesV.mk' rfl HB.out
set_option maxRecDepth 100000 in
set_option maxHeartbeats 4000000 in
theorem sameMos_any {w : World} {ms1 ms2 : List Mo} {a1 a2 : Option Addr} {rs1 rs2 : List RM} {c1 c2 n1 n2 : Nat} (hp : MsAt w a1 rs1 ms1) (hq : MsAt w a2 rs2 ms2) (z1 : ∀ x ∈ ms1, szQ x.2 ≤ 1000) (z2 : ∀ x ∈ ms2, szQ x.2 ≤ 1000) (e1 : ms1.length = n1) (e2 : ms2.length = n2) (hl : n1 ≤ 1000 ∧ n2 ≤ 1000) :
    Calls Tryz.prog 41 #[.slice a1 n1 c1, .slice a2 n2 c2, .func (.func 42) #[] #[]] w (GivesV (.bool (decide (ms1 = ms2))) w) := by
 have HP := Lib.hid (And.intro hp (And.intro hq (And.intro z1 z2)))
 have HN := Lib.hid (And.intro e1 (And.intro e2 hl))
 obtain ⟨v, hv⟩ : ∃ v, decide (ms1 = ms2) = v := ⟨_, rfl⟩
 have HV := Lib.hid hv
 rw [hv]
 clear hp hq z1 z2 e1 e2 hl hv
 by_cases hn : n1 = n2
 case neg =>
  have HE : Hid (v = false) := Lib.hid (by rw [← HV.out]; exact decide_eq_false (fun e => hn (by rw [← HN.out.1, ← HN.out.2.1, e])))
  have hne : ((n1 : Int) != (n2 : Int)) = true := by simp; omega
  have hne2 : ¬ (n1 : Int) = (n2 : Int) := by omega
  go_enter Tryz.func41, Tryz.ntmps41
  go_wp2_with fail
  go_ret
  exact GivesV.mk' (by rw [HE.out]; rfl) (Below.refl _ _)
 case pos =>
 subst hn
 go_enter Tryz.func41, Tryz.ntmps41
 go_wp2_with fail
 go_loopw [17] (fun (iv : Value) (wr : World) => ∃ k : Nat, k ≤ n1 ∧ iv = .int .i64 (k : Int) ∧ Hid (ms1.take k = ms2.take k) ∧ Hid (Below w.heap.size w wr)) (fun iv _ => n1 - (intOf iv).toNat)
 case atStart => exact ⟨0, Nat.zero_le _, rfl, Lib.hid rfl, Lib.hid (Below.refl _ _)⟩
 case round =>
  obtain ⟨k, hk, rfl, HE, HB⟩ := hrel
  by_cases hlt : k < n1
  ·obtain ⟨d, x, g, off, hd, hx, rfl, hok, hr⟩ := (HP.out.1.kept HB.out).get (k := k) (by rw [HN.out.1]; exact hlt)
   obtain ⟨d', y, g', off', hd', hy, rfl, hok', hr'⟩ := (HP.out.2.1.kept HB.out).get (k := k) (by rw [HN.out.2.1]; exact hlt)
   obtain ⟨v1, s, y1, m1, k1, y2, m2, k2⟩ := d
   obtain ⟨u1, t, z1, n2, j2, z2, n3, j3⟩ := d'
   obtain ⟨xv, xq⟩ := x
   obtain ⟨yv, yq⟩ := y
   obtain ⟨hv1, hq1⟩ := hok
   obtain ⟨hu1, hq2⟩ := hok'
   dsimp only [RM.raw] at hv1 hq1 hu1 hq2
   subst hv1 hu1
   obtain ⟨e0, e1, e2, e3⟩ := range_cells4 hr
   obtain ⟨f0, f1, f2, f3⟩ := range_cells4 hr'
   dsimp only at e0 e1 e2 e3 f0 f1 f2 f3
   have hg1 : g < wr.heap.size := World.block_lt_of_cell? _ _ e0
   have hg2 : g' < wr.heap.size := World.block_lt_of_cell? _ _ f0
   have hal := (Below.refl wr.heap.size wr).alloc (Nat.le_refl _) (.cells #[.int .i64 v1, .bool s, .slice y1 m1 k1, .slice y2 m2 k2] 51)
   have hal2 := hal.alloc (by simp) (.cells #[.int .i64 u1, .bool t, .slice z1 n2 j2, .slice z2 n3 j3] 51)
   have HC := Lib.hid (sameMo_any (v := v1) (u := u1) (hq1.kept hal2) (hq2.kept hal2) (HP.out.2.2.1 _ (List.mem_of_getElem? hx)) (HP.out.2.2.2 _ (List.mem_of_getElem? hy)))
   have HXY := Lib.hid (And.intro hx hy)
   have HBA := Lib.hid (HB.out.trans (hal2.mono HB.out.size))
   have f0' := cell_stay f0 hal
   have f1' := cell_stay f1 hal
   have f2' := cell_stay f2 hal
   have f3' := cell_stay f3 hal
   have hki : (k : Int) < (n1 : Int) := by omega
   have hiw : wrap64 ((k : Int) + 1) = (k : Int) + 1 := IntWalk.wrap64_in _ (by have := HN.out.2.2.1; omega)
   clear hd hx hd' hy hq1 hq2 hr hr' hal hal2 f0 f1 f2 f3
   cases hxy : decide (((v1, xq) : Mo) = (u1, yq)) with
   | false =>
    have HF : Hid (v = false) := Lib.hid (by rw [← HV.out]; exact decide_eq_false (differ_at HXY.out.1 HXY.out.2 (of_decide_eq_false hxy)))
    rw [hxy] at HC
    clear hxy
    go_wp2_with fail
    refine HC.out.mono ?_
    rintro e w2 ⟨rfl, hb2⟩
    have HB2 := Lib.hid (HBA.out.trans (hb2.mono HBA.out.size))
    clear hb2 HC e0 e1 e2 e3 f0' f1' f2' f3'
    go_wp2_with fail
    go_ret
    exact GivesV.mk' (by rw [HF.out]; rfl) HB2.out
   | true =>
    have HT := Lib.hid (take_same HE.out HXY.out.1 HXY.out.2 (of_decide_eq_true hxy))
    rw [hxy] at HC
    clear hxy
    go_wp2_with fail
    refine HC.out.mono ?_
    rintro e w2 ⟨rfl, hb2⟩
    have HB2 := Lib.hid (HBA.out.trans (hb2.mono HBA.out.size))
    clear hb2 HC e0 e1 e2 e3 f0' f1' f2' f3'
    go_wp2_with fail
    go_roundw
    case rel => exact ⟨k + 1, by omega, by go_num, HT, HB2⟩
    case measure => first | exact measure_next hiw hlt | exact measure_next rfl hlt
  ·obtain rfl : k = n1 := by omega
   have HF : Hid (v = true) := Lib.hid (by
    have := HE.out
    rw [List.take_of_length_le (by have := HN.out.1; omega), List.take_of_length_le (by have := HN.out.2.1; omega)] at this
    rw [← HV.out]; exact decide_eq_true this)
   go_wp2_with fail
   go_ret
   exact GivesV.mk' (by rw [HF.out]; rfl) HB.out
set_option maxRecDepth 100000 in
set_option maxHeartbeats 2000000 in
theorem PSame_any {w : World} {c1 c2 : Rat} {ms1 ms2 : List Mo} {ps : Bool} {pa pb : Option Addr} {pl pc pk pe : Nat} {qs : Bool} {qa qb : Option Addr} {ql qc qk qe : Nat} {a1 a2 : Option Addr} {cp1 cp2 n1 n2 : Nat} {rs1 rs2 : List RM}
    (hp : PolyAt c1 ms1 (ps, (pa, pl, pc), (pb, pk, pe)) a1 rs1 w) (hq : PolyAt c2 ms2 (qs, (qa, ql, qc), (qb, qk, qe)) a2 rs2 w) (z1 : szQ c1 ≤ 1000) (z2 : szQ c2 ≤ 1000) (zm1 : ∀ x ∈ ms1, szQ x.2 ≤ 1000) (zm2 : ∀ x ∈ ms2, szQ x.2 ≤ 1000) (e1 : rs1.length = n1) (e2 : rs2.length = n2) (hl : n1 ≤ 1000 ∧ n2 ≤ 1000) :
    Calls Tryz.prog 19 #[.agg #[.bool ps, .slice pa pl pc, .slice pb pk pe, .slice a1 n1 cp1], .agg #[.bool qs, .slice qa ql qc, .slice qb qk qe, .slice a2 n2 cp2]] w (GivesV (.bool (decide (c1 = c2 ∧ ms1 = ms2))) w) := by
 obtain ⟨W0, hW0, hB0, b0, b1, hsz⟩ := boxes2 w #[.bool ps, .slice pa pl pc, .slice pb pk pe, .slice a1 n1 cp1] #[.bool qs, .slice qa ql qc, .slice qb qk qe, .slice a2 n2 cp2] 30 30
 have HC := Lib.hid (sameNum_any (hp.num.kept hB0) (hq.num.kept hB0) z1 z2)
 have HM : Hid (∀ W, Below W0.heap.size W0 W → (W.cell? ⟨w.heap.size, 3, none⟩ = some (.slice a1 n1 cp1) ∧ W.cell? ⟨w.heap.size + 1, 3, none⟩ = some (.slice a2 n2 cp2)) ∧ Calls Tryz.prog 41 #[.slice a1 n1 cp1, .slice a2 n2 cp2, .func (.func 42) #[] #[]] W (GivesV (.bool (decide (ms1 = ms2))) W)) := Lib.hid fun W h => by
  obtain ⟨_, _, _, x3, _⟩ := cellsL4 (stayL b0 h)
  obtain ⟨_, _, _, y3, _⟩ := cellsL4 (stayL b1 h)
  have hh := hB0.trans (h.mono hB0.size)
  exact ⟨⟨x3, y3⟩, sameMos_any (hp.ms.kept hh) (hq.ms.kept hh) zm1 zm2 (by rw [← hp.ms.len]; exact e1) (by rw [← hq.ms.len]; exact e2) hl⟩
 have HB := Lib.hid hB0
 have HW0 := Lib.hid hW0
 obtain ⟨p0, p1, p2, p3, _⟩ := cellsL4 b0
 obtain ⟨q0, q1, q2, q3, _⟩ := cellsL4 b1
 rw [hW0] at p0 p1 p2 p3 q0 q1 q2 q3
 rw [Bool.decide_and]
 generalize decide (c1 = c2) = d1 at *
 generalize decide (ms1 = ms2) = d2 at *
 clear hB0 b0 b1 hsz hp hq z1 z2 zm1 zm2 e1 e2 hl hW0
 cases d1
 case false =>
  rw [Bool.false_and]
  go_enter Tryz.func19, Tryz.ntmps19
  go_wp2_with fail
  rw [← HW0.out]
  refine HC.out.mono ?_
  rintro e w1 ⟨rfl, hb1⟩
  have HB1 := Lib.hid (HB.out.trans (hb1.mono HB.out.size))
  clear hb1 HC p0 p1 p2 p3 q0 q1 q2 q3
  go_wp2_with fail
  go_ret
  exact GivesV.mk' rfl HB1.out
 case true =>
  rw [Bool.true_and]
  go_enter Tryz.func19, Tryz.ntmps19
  go_wp2_with fail
  rw [← HW0.out]
  refine HC.out.mono ?_
  rintro e w1 ⟨rfl, hb1⟩
  obtain ⟨⟨x3, y3⟩, hc⟩ := HM.out _ hb1
  have HC2 := Lib.hid hc
  have HB1 := Lib.hid (HB.out.trans (hb1.mono HB.out.size))
  clear hb1 HC hc p0 p1 p2 p3 q0 q1 q2 q3
  go_wp2_with fail
  refine HC2.out.mono ?_
  rintro e w2 ⟨rfl, hb2⟩
  have HB2 := Lib.hid (HB1.out.trans (hb2.mono HB1.out.size))
  clear hb2 HC2 x3 y3
  go_wp2_with fail
  go_ret
  exact GivesV.mk' rfl HB2.out
end Go.Proofs.YtpjeecahaeaajaaGreatDoor
