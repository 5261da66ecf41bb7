/- By program out of: LnNormal, LnSmall, LnNil, LnOf, LnSpkN, LnSpk. -/
import Derived.Test.YtpjeecahaeaajaaGreatDoorMjgdhlo
import Derived.Test.YtpjeecahaeaajaaGreatDoorMmagmec
import Derived.Test.YtpjeecahaeaajaaGreatDoorMcpljib
set_option linter.unusedVariables false
set_option linter.unusedSimpArgs false
namespace Go.Proofs.YtpjeecahaeaajaaGreatDoor
open Go.RowKit Rep Ln
def zRatL : Array Value := #[.bool false, .slice none 0 0, .slice none 0 0]
theorem zero_ratL (w : World) : (zeroValue 27).run Tryz.prog w = .ok (.agg zRatL) w := by unfold zRatL; go_simp
theorem one_ratL (s : Bool) (z1 z2 : Option Addr) (m1 k1 m2 k2 : Nat) : (#[Value.bool s, .slice z1 m1 k1, .slice z2 m2 k2]).all (·.oneCell') = true := by simp [Value.oneCell']
theorem qI_one : qI 1 = 1 := by decide +kernel
theorem ofL (n : Int) (h1 : -9223372036854775808 ≤ n) (h2 : n ≤ 9223372036854775807) (W : World) : Calls Tryz.prog 21 #[.int .i64 n] W (fun e W' => ∃ s z1 m1 k1 z2 m2 k2, e = .returned (.agg #[.bool s, .slice z1 m1 k1, .slice z2 m2 k2]) ∧ Hid (Below W.heap.size W W') ∧ Hid (VQ (qI n) (s, (z1, m1, k1), (z2, m2, k2)) W')) :=
 (OfP_any n W h1 h2).mono fun e W' hg => by
  obtain ⟨a1, c1, a2, c2, rfl, h, hb⟩ := hg
  exact ⟨_, a1, _, c1, a2, _, c2, rfl, Lib.hid hb, Lib.hid ⟨rfl, rfl, rfl, h⟩⟩
def GotN (b m : Nat) (W5 : World) (c : Rat) (ms : List Mo) (k : Rat) (e : Ending) (W' : World) : Prop :=
 ∃ s z1 m1 k1 z2 m2 k2 a cp rs t y1 n1 j1 y2 n2 j2, e = .returned (.tuple #[.agg #[.bool s, .slice z1 m1 k1, .slice z2 m2 k2, .slice a (List.length rs) cp], .agg #[.bool t, .slice y1 n1 j1, .slice y2 n2 j2]]) ∧ Hid (BR b m false W5 W') ∧ Hid (PolyAt c ms (s, (z1, m1, k1), (z2, m2, k2)) a rs W') ∧ Hid (VQ k (t, (y1, n1, j1), (y2, n2, j2)) W')
structure NmAt (W6 : World) (b m : Nat) (c : Rat) (ms : List Mo) (i : Nat × RawR × RawR × RawR × Option Addr × List RM × Nat) (W : World) : Prop where
 r : BR b m false W6 W
 blk : W.heap[i.1]? = some (.cells #[.bool i.2.2.2.1.1, .slice i.2.2.2.1.2.1.1 i.2.2.2.1.2.1.2.1 i.2.2.2.1.2.1.2.2, .slice i.2.2.2.1.2.2.1 i.2.2.2.1.2.2.2.1 i.2.2.2.1.2.2.2.2, .slice i.2.2.2.2.1 i.2.2.2.2.2.1.length i.2.2.2.2.2.2] 30 (0, 0))
 ge : W6.heap.size ≤ i.1
 poly : PolyAt c ms i.2.2.2.1 i.2.2.2.2.1 i.2.2.2.2.2.1 W
theorem nm_end {W6 W : World} {b m : Nat} {c : Rat} {ms : List Mo} {P : Nat} {r1 r4 : RawR} {s : Bool} {z1 z2 a : Option Addr} {m1 k1 m2 k2 cp : Nat} {rs : List RM} (h : BR b m false W6 W) (hT : Tab W6) (hb : b < W6.heap.size)
    (hP : W.heap[P]? = some (.cells #[.bool false, .slice none 0 0, .slice none 0 0, .slice none 0 0] 30 (0, 0))) (hp : W6.heap.size ≤ P) (hv : PolyAt (leftQ false c) (leftM false ms) (s, (z1, m1, k1), (z2, m2, k2)) a rs W) (_ : rs.length ≤ cp ∧ cp ≤ 1000000 ∧ (a = none → rs = [] ∧ cp = 0)) :
    NmAt W6 b m c ms (P, r1, r4, (s, (z1, m1, k1), (z2, m2, k2)), a, rs, cp) (putL4 W P (.bool s) (.slice z1 m1 k1) (.slice z2 m2 k2) (.slice a rs.length cp)) :=
 ⟨h.setL hT hb hp _ _ _ _, putL4_block hP _ _ _ _, hp, hv.past (poly_noI hP) (putL4_grown _ _ _ _ _ _)⟩
theorem set3_other {W : World} {g o R : Nat} {s : Bool} {v1 v2 u : Value} (h : W.cell? ⟨g, o, none⟩ = some u) (hn : g ≠ R) : (set3 W R s v1 v2).cell? ⟨g, o, none⟩ = some u := (set3_grown W R s v1 v2).cell h (by simpa using hn)
theorem putL4_other {W : World} {g o R : Nat} {v0 v1 v2 v3 u : Value} (h : W.cell? ⟨g, o, none⟩ = some u) (hn : g ≠ R) : (putL4 W R v0 v1 v2 v3).cell? ⟨g, o, none⟩ = some u := (putL4_grown W R v0 v1 v2 v3).cell h (by simpa using hn)
theorem fin_normal {w W : World} {b m R1 R2 : Nat} {c : Rat} {ms : List Mo} {k : Rat} {s : Bool} {z1 z2 a : Option Addr} {m1 k1 m2 k2 cp : Nat} {rs : List RM} {t : Bool} {y1 y2 : Option Addr} {n1 j1 n2 j2 : Nat} (h : BR b m false w W) (hT : Tab w) (hb : b < w.heap.size) (hR1 : w.heap.size ≤ R1) (hR2 : w.heap.size ≤ R2) (hne : R1 ≠ R2)
    (h1 : W.heap[R1]? = some (.cells #[.bool false, .slice none 0 0, .slice none 0 0, .slice none 0 0] 30 (0, 0))) (h2 : Blank W R2) (hp : PolyAt c ms (s, (z1, m1, k1), (z2, m2, k2)) a rs W) (hk : VQ k (t, (y1, n1, j1), (y2, n2, j2)) W) :
    GotN b m w c ms k (.returned (.tuple #[.agg #[.bool s, .slice z1 m1 k1, .slice z2 m2 k2, .slice a rs.length cp], .agg #[.bool t, .slice y1 n1 j1, .slice y2 n2 j2]])) (set3 (putL4 W R1 (.bool s) (.slice z1 m1 k1) (.slice z2 m2 k2) (.slice a rs.length cp)) R2 t (.slice y1 n1 j1) (.slice y2 n2 j2)).drew := by
 have hg := putL4_grown W R1 (.bool s) (.slice z1 m1 k1) (.slice z2 m2 k2) (.slice a rs.length cp)
 have h3 : Blank (putL4 W R1 (.bool s) (.slice z1 m1 k1) (.slice z2 m2 k2) (.slice a rs.length cp)) R2 := h2.grown hg (by omega)
 have hr := h.setL hT hb hR1 (.bool s) (.slice z1 m1 k1) (.slice z2 m2 k2) (.slice a rs.length cp)
 refine ⟨_, _, _, _, _, _, _, a, cp, rs, _, _, _, _, _, _, _, rfl, Lib.hid (BR.kept ?_ (below_drew _)), Lib.hid (((hp.past (poly_noI h1) hg).past (rat_noI h3) (set3_grown _ _ _ _ _)).kept (below_drew _)), Lib.hid (((hk.pastL (poly_noI h1).2 hg).set3 h3 _ _ _).kept (below_drew _))⟩
 unfold set3
 exact ((hr.setNew hT hb _ hR2).setNew hT hb _ hR2).setNew hT hb _ hR2
theorem fin_cells {W : World} {R1 R2 : Nat} {v0 v1 v2 v3 : Value} {s : Bool} {x1 x2 : Value} {t : TypeId} (h1 : W.heap[R1]? = some (.cells #[v0, v1, v2, v3] t (0, 0))) (h2 : Blank W R2) (hne : R1 ≠ R2) :
    (set3 W R2 s x1 x2).cell? ⟨R1, 0, none⟩ = some v0 ∧ (set3 W R2 s x1 x2).cell? ⟨R1, 1, none⟩ = some v1 ∧ (set3 W R2 s x1 x2).cell? ⟨R1, 2, none⟩ = some v2 ∧ (set3 W R2 s x1 x2).cell? ⟨R1, 3, none⟩ = some v3 ∧ (set3 W R2 s x1 x2).cell? ⟨R2, 0, none⟩ = some (.bool s) ∧ (set3 W R2 s x1 x2).cell? ⟨R2, 1, none⟩ = some x1 ∧ (set3 W R2 s x1 x2).cell? ⟨R2, 2, none⟩ = some x2 := by
 obtain ⟨a0, a1, a2, a3, _⟩ := cellsL4 h1
 have hb : W.heap[R2]? = _ := h2
 refine ⟨set3_other a0 hne, set3_other a1 hne, set3_other a2 hne, set3_other a3 hne, ?_, ?_, ?_⟩ <;> simp [set3, World.cell?, World.setCell, Array.getElem?_modify, hb]
set_option maxRecDepth 100000 in
set_option maxHeartbeats 16000000 in
theorem Normal_p {w : World} {b m : Nat} {c : Rat} {x : Mo} {l : List Mo} {ps : Bool} {pa pb : Option Addr} {pl pc pk pe : Nat} {a : Option Addr} {cp : Nat} {rs : List RM} (hB : Bench w b m false) (hT : Tab w)
    (hp : PolyAt c (x :: l) (ps, (pa, pl, pc), (pb, pk, pe)) a rs w) (zm : ∀ y ∈ x :: l, szQ y.2 ≤ 400) (hn : rs.length ≤ 500) (hx : ovQ m x.2 = false) (hd : ovQ m (1 / x.2) = false) (h0 : ovQ m ((1 / x.2) * 0) = false) (hs : scaleO m (1 / x.2) (x :: l) = false) :
    Calls Tryz.prog 26 #[.pointer (some ⟨b, 0, none⟩), .agg #[.bool ps, .slice pa pl pc, .slice pb pk pe, .slice a rs.length cp]] w (GotN b m w ((1 / x.2) * 0) (scale (1 / x.2) (x :: l)) x.2) := by
 obtain ⟨W0, hW0, hB0, b0, b1, b2, hsz⟩ := boxes3 w #[.bool ps, .slice pa pl pc, .slice pb pk pe, .slice a rs.length cp] #[.bool false, .slice none 0 0, .slice none 0 0, .slice none 0 0] #[.bool false, .slice none 0 0, .slice none 0 0] 30 30 27
 have hp0 := hp.kept hB0
 have hR0 : BR b m false w W0 := (BR.refl hB hT).kept hB0
 obtain ⟨d, x', g, off, hd0, hx0, rfl, hok, hr⟩ := hp0.ms.get (k := 0) (by simp)
 simp at hx0
 subst hx0
 obtain ⟨v, s, z1, m1, k1, z2, m2, k2⟩ := d
 obtain ⟨hv, hq⟩ := hok
 dsimp only [RM.raw] at hv hq
 rw [Nat.zero_mul, Nat.add_zero] at hr
 have e1 : W0.cell? ⟨g, off + 1, none⟩ = some (.bool s) := hr 1 _ rfl
 have e2 : W0.cell? ⟨g, off + 2, none⟩ = some (.slice z1 m1 k1) := hr 2 _ rfl
 have e3 : W0.cell? ⟨g, off + 3, none⟩ = some (.slice z2 m2 k2) := hr 3 _ rfl
 have HZX : Hid (szQ x.2 ≤ 400) := Lib.hid (zm x (by simp))
 have HAN0 := answer_any hR0.bench hR0.tab hq (by have := HZX.out; omega)
 rw [hx] at HAN0
 have HAN := Lib.hid HAN0
 have HR0 := Lib.hid (And.intro hR0 (And.intro hT (And.intro hB.lt hsz)))
 have HPM := Lib.hid (And.intro hp0.ms (And.intro zm hn))
 have HHS := Lib.hid (And.intro hd (And.intro h0 hs))
 have hnz : rs.length ≠ 0 := by rw [hp.ms.len]; simp
 obtain ⟨n, hnn⟩ : ∃ n, rs.length = n := ⟨_, rfl⟩
 have HNN := Lib.hid hnn
 rw [hnn] at hn hW0 b0 hnz ⊢
 have HBK := Lib.hid (And.intro b0 (And.intro b1 b2))
 have HW0 := Lib.hid hW0
 obtain ⟨q0, q1, q2, q3, _⟩ := cellsL4 b0
 rw [hW0] at q0 q1 q2 q3 e1 e2 e3
 have hze : ((n : Int) == 0) = false := cast_beq_no hnz
 have hzl : (0 : Int) < (n : Int) := by omega
 have hzn : 0 < n := by omega
 clear hB hT hp zm hp0 hR0 hB0 b0 b1 b2 hsz hd0 hq hr hx hd h0 hs hnn hW0 HAN0 hnz
 go_enter Tryz.func26, Tryz.ntmps26
 go_wp2_with fail
 rw [← HW0.out]
 refine HAN.out.mono ?_
 rintro e w5 ⟨ks, ka, kl, kc, kb, kk, ke, rfl, hr5, hv5⟩
 clear q0 q1 q2 q3 e1 e2 e3 HAN
 have hal := (Below.refl w5.heap.size w5).alloc (Nat.le_refl _) (.cells #[.bool ks, .slice ka kl kc, .slice kb kk ke] 27)
 obtain ⟨W6, hW6⟩ : ∃ W6, W6 = w5.alloc (.cells #[.bool ks, .slice ka kl kc, .slice kb kk ke] 27) := ⟨_, rfl⟩
 rw [← hW6] at hal
 have hr5' : BR b m false W0 w5 := hr5.out
 have hr6 := hr5'.kept hal
 have hbW : BR b m false W6 W6 := hr6.self
 have hk6 : VQ x.2 (ks, (ka, kl, kc), (kb, kk, ke)) W6 := (hv5.out.ok rfl).kept hal
 have hkb : W6.heap[w5.heap.size]? = some (.cells #[.bool ks, .slice ka kl kc, .slice kb kk ke] 27 (0, 0)) := by rw [hW6]; exact heap_alloc_new w5 _
 have hlt : b < W0.heap.size := by have := HR0.out; omega
 have hpb : W6.heap[w.heap.size]? = _ := stayL (hr5'.block HBK.out.1 (by have := HR0.out; omega)) hal
 have hm6 : MsAt W6 (some ⟨g, off, none⟩) rs (x :: l) := (HPM.out.1.bench HR0.out.1.bench hr5').kept hal
 have HMB : Hid (W0.heap.size ≤ w5.heap.size) := Lib.hid hr5'.size
 have HK : Hid (∀ p W, BR b m p W6 W → (W.cell? ⟨w5.heap.size, 0, none⟩ = some (.bool ks) ∧ W.cell? ⟨w5.heap.size, 1, none⟩ = some (.slice ka kl kc) ∧ W.cell? ⟨w5.heap.size, 2, none⟩ = some (.slice kb kk ke) ∧ W.cell? ⟨w.heap.size, 3, none⟩ = some (.slice (some ⟨g, off, none⟩) n cp))) := Lib.hid fun p W h => by
  obtain ⟨x0, x1, x2, _⟩ := cells3 (h.block hkb (by have := HMB.out; omega))
  obtain ⟨_, _, _, x3, _⟩ := cellsL4 (h.block hpb (by have := HR0.out; omega))
  exact ⟨x0, x1, x2, x3⟩
 have hz1 : szQ (1 / x.2) ≤ 410 := by have := szQ_div 1 x.2; have := HZX.out; have : szQ 1 ≤ 2 := by decide +kernel
                                      omega
 have HC2 : Hid (∀ W, BR b m false W6 W → Calls Tryz.prog 21 #[.int .i64 1] W (fun e W' => ∃ s z1 m1 k1 z2 m2 k2, e = .returned (.agg #[.bool s, .slice z1 m1 k1, .slice z2 m2 k2]) ∧ Hid (BR b m false W W') ∧ Hid (VQ 1 (s, (z1, m1, k1), (z2, m2, k2)) W'))) := Lib.hid fun W h => (ofL 1 (by omega) (by omega) W).mono fun e W' hg => by
  obtain ⟨s, z1, m1, k1, z2, m2, k2, rfl, hb, hv⟩ := hg
  rw [qI_one] at hv
  exact ⟨_, _, _, _, _, _, _, rfl, Lib.hid (h.self.kept hb.out), hv⟩
 have HC4 : Hid (∀ W {s z1 m1 k1 z2 m2 k2}, BR b m false W6 W → VQ 1 (s, (z1, m1, k1), (z2, m2, k2)) W → Calls Tryz.prog 50 #[.pointer (some ⟨b, 0, none⟩), .agg #[.bool s, .slice z1 m1 k1, .slice z2 m2 k2], .agg #[.bool ks, .slice ka kl kc, .slice kb kk ke]] W (GotO b m false W (1 / x.2))) := Lib.hid fun W s z1 m1 k1 z2 m2 k2 h hv => by
  have := (Div_q h.bench h.tab (hv.ratxL (by have : szQ 1 ≤ 2 := by decide +kernel
                                             omega)) ((hk6.benchL hbW.bench h.g).ratxL (by have := HZX.out; omega))).mono fun e W' hg => hg.gotO (b := b) (m := m) h.self
  rw [HHS.out.1] at this
  exact this
 have HC8 : Hid (∀ W {s z1 m1 k1 z2 m2 k2}, BR b m false W6 W → VQ (leftQ false (1 / x.2)) (s, (z1, m1, k1), (z2, m2, k2)) W → Calls Tryz.prog 18 #[.pointer (some ⟨b, 0, none⟩), .agg #[.bool s, .slice z1 m1 k1, .slice z2 m2 k2], .agg #[.bool false, .slice none 0 0, .slice none 0 0, .slice (some ⟨g, off, none⟩) n cp]] W (GotP b m false W ((1 / x.2) * 0) (scale (1 / x.2) (x :: l)))) := Lib.hid fun W s z1 m1 k1 z2 m2 k2 h hv => by
  have := Scale_any (cp := cp) h.bench h.tab (k := 1 / x.2) hv ⟨VQ.zero W, hm6.bench hbW.bench h⟩ (by omega) (by rw [szQ_zero]; omega) (fun y hy => by have := HPM.out.2.1 y hy; omega) (by have := HPM.out.2.2; omega)
  rw [HHS.out.2.1, HHS.out.2.2, HNN.out] at this
  exact this
 have HLT : Hid (b < W6.heap.size) := Lib.hid hr6.bench.lt
 have HT6 := Lib.hid hr6.tab
 have HBW := Lib.hid hbW
 have HBD := Lib.hid (hbW.kept (below_drew W6))
 have HK6 := Lib.hid hk6
 have HKB := Lib.hid (And.intro hkb (And.intro hr6 (by have := hr5'.size; omega : w5.heap.size ≠ b)))
 have HW6 := Lib.hid hW6
 clear hal hr6 hbW hk6 hkb hlt hpb hm6 hz1 hr5 hv5 hr5' hW6
 go_wp2_with (first | (with_reducible refine wpList_alloc_agg rfl 27 rfl zRatL zero_ratL ?_) | (refine wpList_store_new rfl 27 (.tmp 6) (.tmp 20) (by with_reducible rfl) w5 zRatL #[.bool ks, .slice ka kl kc, .slice kb kk ke] (by rfl) (by rfl) (by rfl) (by rw [size_ratio]; rfl) (by rfl) (one_ratL _ _ _ _ _ _ _) ?_))
 rw [← HW6.out]
 generalize hMB : w5.heap.size = KB at *
 clear hMB
 refine wp_region_ex (ι := Nat × RawR × RawR × RawR × Option Addr × List RM × Nat) (fun i => [(21, .pointer (some ⟨b, 0, none⟩)), (22, .pointer (some ⟨b, 0, none⟩)), (23, .agg #[.bool i.2.1.1, .slice i.2.1.2.1.1 i.2.1.2.1.2.1 i.2.1.2.1.2.2, .slice i.2.1.2.2.1 i.2.1.2.2.2.1 i.2.1.2.2.2.2]), (24, .agg #[.bool ks, .slice ka kl kc, .slice kb kk ke]), (25, .agg #[.bool i.2.2.1.1, .slice i.2.2.1.2.1.1 i.2.2.1.2.1.2.1 i.2.2.1.2.1.2.2, .slice i.2.2.1.2.2.1 i.2.2.1.2.2.2.1 i.2.2.1.2.2.2.2]), (26, .pointer (some ⟨w.heap.size, 3, none⟩)), (27, .slice (some ⟨g, off, none⟩) n cp), (28, .agg #[.bool false, .slice none 0 0, .slice none 0 0, .slice (some ⟨g, off, none⟩) n cp]), (29, .agg #[.bool i.2.2.2.1.1, .slice i.2.2.2.1.2.1.1 i.2.2.2.1.2.1.2.1 i.2.2.2.1.2.1.2.2, .slice i.2.2.2.1.2.2.1 i.2.2.2.1.2.2.2.1 i.2.2.2.1.2.2.2.2, .slice i.2.2.2.2.1 (List.length i.2.2.2.2.2.1) i.2.2.2.2.2.2]), (7, .pointer (some ⟨i.1, 0, none⟩))]) (NmAt W6 b m ((1 / x.2) * 0) (scale (1 / x.2) (x :: l))) ?reg ?rest
 case reg =>
  refine wp_region_held_drew (S := (fun w' => w'.cell? ⟨KB, 0, none⟩ = some (.bool ks) ∧ w'.cell? ⟨KB, 1, none⟩ = some (.slice ka kl kc) ∧ w'.cell? ⟨KB, 2, none⟩ = some (.slice kb kk ke) ∧ w'.cell? ⟨w.heap.size, 3, none⟩ = some (.slice (some ⟨g, off, none⟩) n cp))) (by kernel_rfl) ?_ (fun hHeld => ?_)
  ·exact HK.out _ _ HBD.out
  refine tkV 0 hHeld ?_
  try simp only [Act.put, zA, zB, zC, zD, zE, zF]
  refine tkV 1 hHeld ?_
  try simp only [Act.put, zA, zB, zC, zD, zE, zF]
  refine tkV 3 hHeld ?_
  try simp only [Act.put, zA, zB, zC, zD, zE, zF]
  refine tkV 5 hHeld ?_
  try simp only [Act.put, zA, zB, zC, zD, zE, zF]
  refine tkV 6 hHeld ?_
  try simp only [Act.put, zA, zB, zC, zD, zE, zF]
  refine tkV 7 hHeld ?_
  try simp only [Act.put, zA, zB, zC, zD, zE, zF]
  refine rdy [2, 9] ?_
  refine AllReadyH.cons (by rfl) (fun K hK => ?_) ?_
  ·go_simp
   refine (HC2.out _ HBD.out).mono ?_
   rintro e w1 ⟨uus, uua, uul, uuc, uub, uuk, uue, rfl, hr1, hv1⟩
   have HB1 := Lib.hid (BR.trans HBD.out hr1.out)
   have HVuu1 := Lib.hid hv1.out
   clear hr1 hv1
   refine hK.out _ _ ?_ (fun hHeld => ?_)
   ·exact HK.out _ _ HB1.out
   clear hK K
   try simp only [Act.put, zA, zB, zC, zD, zE, zF]
   refine rdy [4, 9] ?_
   refine AllReadyH.cons (by rfl) (fun K hK => ?_) ?_
   ·go_simp
    refine (HC4.out _ HB1.out HVuu1.out).mono ?_
    rintro e w2 ⟨dds, dda, ddl, ddc, ddb, ddk, dde, rfl, hr2, hv2⟩
    have HVuu2 := Lib.hid (VQ.benchL HVuu1.out (BR.bench HB1.out) hr2.out.g)
    have HB2 := Lib.hid (BR.trans HB1.out hr2.out)
    have HVdd2 := Lib.hid hv2.out
    clear hr2 hv2
    refine hK.out _ _ ?_ (fun hHeld => ?_)
    ·exact HK.out _ _ HB2.out
    clear hK K
    try simp only [Act.put, zA, zB, zC, zD, zE, zF]
    refine rdy [8, 9] ?_
    refine AllReadyH.cons (by rfl) (fun K hK => ?_) ?_
    ·go_simp
     refine (HC8.out _ HB2.out HVdd2.out).mono ?_
     rintro e w3 ⟨pps, ppa, ppl, ppc, ppb, ppk, ppe, a9, cp9, rs9, rfl, hr3, hv3, hl9, hc9, hn9⟩
     have HVdd3 := Lib.hid (VQ.benchL HVdd2.out (BR.bench HB2.out) hr3.out.g)
     have HVuu3 := Lib.hid (VQ.benchL HVuu2.out (BR.bench HB2.out) hr3.out.g)
     have HB3 := Lib.hid (BR.trans HB2.out hr3.out)
     have HVpp3 := Lib.hid hv3.out
     have HL9 := Lib.hid (And.intro hl9 (And.intro hc9 hn9))
     clear hr3 hv3 hl9 hc9 hn9
     refine hK.out _ _ ?_ (fun hHeld => ?_)
     ·exact HK.out _ _ HB3.out
     clear hK K
     try simp only [Act.put, zA, zB, zC, zD, zE, zF]
     refine rdy [9] ?_
     refine AllReadyH.cons (by rfl) (fun K hK => ?_) AllReadyH.nil
     go_simp
     obtain ⟨w4, hw4⟩ : ∃ w4, w4 = w3.alloc (.cells #[.bool false, .slice none 0 0, .slice none 0 0, .slice none 0 0] 30) := ⟨_, rfl⟩
     rw [← hw4]
     have hal : Below w3.heap.size w3 w4 := by rw [hw4]; exact (Below.refl _ _).alloc (Nat.le_refl _) _
     have HVdd4 := Lib.hid (VQ.kept HVdd3.out hal)
     have HVpp4 := Lib.hid (PolyAt.kept HVpp3.out hal)
     have HVuu4 := Lib.hid (VQ.kept HVuu3.out hal)
     have HB4 := Lib.hid (BR.kept HB3.out hal)
     have HP4 : Hid (w4.heap[w3.heap.size]? = some (.cells #[.bool false, .slice none 0 0, .slice none 0 0, .slice none 0 0] 30 (0, 0))) := Lib.hid (by rw [hw4]; exact heap_alloc_new w3 _)
     have HPL4 : Hid (W6.heap.size ≤ w3.heap.size) := Lib.hid (BR.size HB3.out)
     clear hal hw4
     refine hK.out _ _ ?_ (fun hHeld => ?_)
     ·exact HK.out _ _ HB4.out
     clear hK K
     try simp only [Act.put, zA, zB, zC, zD, zE, zF]
     refine rdy [10] ?_
     refine AllReadyH.cons (by rfl) (fun K hK => ?_) AllReadyH.nil
     obtain ⟨x0, x1, x2, x3, f0, f1, f2, f3⟩ := cellsL4 HP4.out
     go_simp
     have HE := Lib.hid (nm_end (r1 := (uus, (uua, uul, uuc), (uub, uuk, uue))) (r4 := (dds, (dda, ddl, ddc), (ddb, ddk, dde))) HB4.out HT6.out HLT.out HP4.out HPL4.out HVpp4.out HL9.out)
     clear x0 x1 x2 x3 f0 f1 f2 f3
     refine hK.out _ _ ?_ (fun hHeld => ?_)
     ·exact HK.out _ _ HE.out.r
     clear hK K
     try simp only [Act.put, zA, zB, zC, zD, zE, zF]
     refine wpAnyH_done (by kernel_rfl) ?_ _
     refine ⟨(w3.heap.size, (uus, (uua, uul, uuc), (uub, uuk, uue)), (dds, (dda, ddl, ddc), (ddb, ddk, dde)), (pps, (ppa, ppl, ppc), (ppb, ppk, ppe)), a9, rs9, cp9), ?_, HE.out⟩
     simp only [puts, Act.put, zA, zB, zC, zD, zE, zF]
    refine AllReadyH.cons (by rfl) (fun K hK => ?_) ?_
    ·go_simp
     obtain ⟨w5, hw5⟩ : ∃ w5, w5 = w2.alloc (.cells #[.bool false, .slice none 0 0, .slice none 0 0, .slice none 0 0] 30) := ⟨_, rfl⟩
     rw [← hw5]
     have hal : Below w2.heap.size w2 w5 := by rw [hw5]; exact (Below.refl _ _).alloc (Nat.le_refl _) _
     have HVdd5 := Lib.hid (VQ.kept HVdd2.out hal)
     have HVuu5 := Lib.hid (VQ.kept HVuu2.out hal)
     have HB5 := Lib.hid (BR.kept HB2.out hal)
     have HP5 : Hid (w5.heap[w2.heap.size]? = some (.cells #[.bool false, .slice none 0 0, .slice none 0 0, .slice none 0 0] 30 (0, 0))) := Lib.hid (by rw [hw5]; exact heap_alloc_new w2 _)
     have HPL5 : Hid (W6.heap.size ≤ w2.heap.size) := Lib.hid (BR.size HB2.out)
     clear hal hw5
     refine hK.out _ _ ?_ (fun hHeld => ?_)
     ·exact HK.out _ _ HB5.out
     clear hK K
     try simp only [Act.put, zA, zB, zC, zD, zE, zF]
     refine rdy [8] ?_
     refine AllReadyH.cons (by rfl) (fun K hK => ?_) AllReadyH.nil
     go_simp
     refine (HC8.out _ HB5.out HVdd5.out).mono ?_
     rintro e w6 ⟨pps, ppa, ppl, ppc, ppb, ppk, ppe, a9, cp9, rs9, rfl, hr6, hv6, hl9, hc9, hn9⟩
     have HP6 := Lib.hid (BR.block hr6.out HP5.out (by have := HLT.out; have := HPL5.out; omega))
     have HVdd6 := Lib.hid (VQ.benchL HVdd5.out (BR.bench HB5.out) hr6.out.g)
     have HVuu6 := Lib.hid (VQ.benchL HVuu5.out (BR.bench HB5.out) hr6.out.g)
     have HB6 := Lib.hid (BR.trans HB5.out hr6.out)
     have HVpp6 := Lib.hid hv6.out
     have HL9 := Lib.hid (And.intro hl9 (And.intro hc9 hn9))
     clear hr6 hv6 hl9 hc9 hn9
     refine hK.out _ _ ?_ (fun hHeld => ?_)
     ·exact HK.out _ _ HB6.out
     clear hK K
     try simp only [Act.put, zA, zB, zC, zD, zE, zF]
     refine rdy [10] ?_
     refine AllReadyH.cons (by rfl) (fun K hK => ?_) AllReadyH.nil
     obtain ⟨x0, x1, x2, x3, f0, f1, f2, f3⟩ := cellsL4 HP6.out
     go_simp
     have HE := Lib.hid (nm_end (r1 := (uus, (uua, uul, uuc), (uub, uuk, uue))) (r4 := (dds, (dda, ddl, ddc), (ddb, ddk, dde))) HB6.out HT6.out HLT.out HP6.out HPL5.out HVpp6.out HL9.out)
     clear x0 x1 x2 x3 f0 f1 f2 f3
     refine hK.out _ _ ?_ (fun hHeld => ?_)
     ·exact HK.out _ _ HE.out.r
     clear hK K
     try simp only [Act.put, zA, zB, zC, zD, zE, zF]
     refine wpAnyH_done (by kernel_rfl) ?_ _
     refine ⟨(w2.heap.size, (uus, (uua, uul, uuc), (uub, uuk, uue)), (dds, (dda, ddl, ddc), (ddb, ddk, dde)), (pps, (ppa, ppl, ppc), (ppb, ppk, ppe)), a9, rs9, cp9), ?_, HE.out⟩
     simp only [puts, Act.put, zA, zB, zC, zD, zE, zF]
    exact AllReadyH.nil
   refine AllReadyH.cons (by rfl) (fun K hK => ?_) ?_
   ·go_simp
    obtain ⟨w7, hw7⟩ : ∃ w7, w7 = w1.alloc (.cells #[.bool false, .slice none 0 0, .slice none 0 0, .slice none 0 0] 30) := ⟨_, rfl⟩
    rw [← hw7]
    have hal : Below w1.heap.size w1 w7 := by rw [hw7]; exact (Below.refl _ _).alloc (Nat.le_refl _) _
    have HVuu7 := Lib.hid (VQ.kept HVuu1.out hal)
    have HB7 := Lib.hid (BR.kept HB1.out hal)
    have HP7 : Hid (w7.heap[w1.heap.size]? = some (.cells #[.bool false, .slice none 0 0, .slice none 0 0, .slice none 0 0] 30 (0, 0))) := Lib.hid (by rw [hw7]; exact heap_alloc_new w1 _)
    have HPL7 : Hid (W6.heap.size ≤ w1.heap.size) := Lib.hid (BR.size HB1.out)
    clear hal hw7
    refine hK.out _ _ ?_ (fun hHeld => ?_)
    ·exact HK.out _ _ HB7.out
    clear hK K
    try simp only [Act.put, zA, zB, zC, zD, zE, zF]
    refine rdy [4] ?_
    refine AllReadyH.cons (by rfl) (fun K hK => ?_) AllReadyH.nil
    go_simp
    refine (HC4.out _ HB7.out HVuu7.out).mono ?_
    rintro e w8 ⟨dds, dda, ddl, ddc, ddb, ddk, dde, rfl, hr8, hv8⟩
    have HP8 := Lib.hid (BR.block hr8.out HP7.out (by have := HLT.out; have := HPL7.out; omega))
    have HVuu8 := Lib.hid (VQ.benchL HVuu7.out (BR.bench HB7.out) hr8.out.g)
    have HB8 := Lib.hid (BR.trans HB7.out hr8.out)
    have HVdd8 := Lib.hid hv8.out
    clear hr8 hv8
    refine hK.out _ _ ?_ (fun hHeld => ?_)
    ·exact HK.out _ _ HB8.out
    clear hK K
    try simp only [Act.put, zA, zB, zC, zD, zE, zF]
    refine rdy [8] ?_
    refine AllReadyH.cons (by rfl) (fun K hK => ?_) AllReadyH.nil
    go_simp
    refine (HC8.out _ HB8.out HVdd8.out).mono ?_
    rintro e w9 ⟨pps, ppa, ppl, ppc, ppb, ppk, ppe, a9, cp9, rs9, rfl, hr9, hv9, hl9, hc9, hn9⟩
    have HP9 := Lib.hid (BR.block hr9.out HP8.out (by have := HLT.out; have := HPL7.out; omega))
    have HVdd9 := Lib.hid (VQ.benchL HVdd8.out (BR.bench HB8.out) hr9.out.g)
    have HVuu9 := Lib.hid (VQ.benchL HVuu8.out (BR.bench HB8.out) hr9.out.g)
    have HB9 := Lib.hid (BR.trans HB8.out hr9.out)
    have HVpp9 := Lib.hid hv9.out
    have HL9 := Lib.hid (And.intro hl9 (And.intro hc9 hn9))
    clear hr9 hv9 hl9 hc9 hn9
    refine hK.out _ _ ?_ (fun hHeld => ?_)
    ·exact HK.out _ _ HB9.out
    clear hK K
    try simp only [Act.put, zA, zB, zC, zD, zE, zF]
    refine rdy [10] ?_
    refine AllReadyH.cons (by rfl) (fun K hK => ?_) AllReadyH.nil
    obtain ⟨x0, x1, x2, x3, f0, f1, f2, f3⟩ := cellsL4 HP9.out
    go_simp
    have HE := Lib.hid (nm_end (r1 := (uus, (uua, uul, uuc), (uub, uuk, uue))) (r4 := (dds, (dda, ddl, ddc), (ddb, ddk, dde))) HB9.out HT6.out HLT.out HP9.out HPL7.out HVpp9.out HL9.out)
    clear x0 x1 x2 x3 f0 f1 f2 f3
    refine hK.out _ _ ?_ (fun hHeld => ?_)
    ·exact HK.out _ _ HE.out.r
    clear hK K
    try simp only [Act.put, zA, zB, zC, zD, zE, zF]
    refine wpAnyH_done (by kernel_rfl) ?_ _
    refine ⟨(w1.heap.size, (uus, (uua, uul, uuc), (uub, uuk, uue)), (dds, (dda, ddl, ddc), (ddb, ddk, dde)), (pps, (ppa, ppl, ppc), (ppb, ppk, ppe)), a9, rs9, cp9), ?_, HE.out⟩
    simp only [puts, Act.put, zA, zB, zC, zD, zE, zF]
   exact AllReadyH.nil
  refine AllReadyH.cons (by rfl) (fun K hK => ?_) ?_
  ·go_simp
   obtain ⟨w10, hw10⟩ : ∃ w10, w10 = (W6.alloc (.cells #[.bool false, .slice none 0 0, .slice none 0 0, .slice none 0 0] 30)).drew := ⟨_, rfl⟩
   rw [← hw10]
   have hal : Below W6.heap.size W6 w10 := by rw [hw10]; exact ((Below.refl _ _).alloc (Nat.le_refl _) _).drew
   have HB10 := Lib.hid (BR.kept HBW.out hal)
   have HP10 : Hid (w10.heap[W6.heap.size]? = some (.cells #[.bool false, .slice none 0 0, .slice none 0 0, .slice none 0 0] 30 (0, 0))) := Lib.hid (by rw [hw10]; exact heap_alloc_new W6 _)
   have HPL10 : Hid (W6.heap.size ≤ W6.heap.size) := Lib.hid (Nat.le_refl _)
   clear hal hw10
   refine hK.out _ _ ?_ (fun hHeld => ?_)
   ·exact HK.out _ _ HB10.out
   clear hK K
   try simp only [Act.put, zA, zB, zC, zD, zE, zF]
   refine rdy [2] ?_
   refine AllReadyH.cons (by rfl) (fun K hK => ?_) AllReadyH.nil
   go_simp
   refine (HC2.out _ HB10.out).mono ?_
   rintro e w11 ⟨uus, uua, uul, uuc, uub, uuk, uue, rfl, hr11, hv11⟩
   have HP11 := Lib.hid (BR.block hr11.out HP10.out (by have := HLT.out; have := HPL10.out; omega))
   have HB11 := Lib.hid (BR.trans HB10.out hr11.out)
   have HVuu11 := Lib.hid hv11.out
   clear hr11 hv11
   refine hK.out _ _ ?_ (fun hHeld => ?_)
   ·exact HK.out _ _ HB11.out
   clear hK K
   try simp only [Act.put, zA, zB, zC, zD, zE, zF]
   refine rdy [4] ?_
   refine AllReadyH.cons (by rfl) (fun K hK => ?_) AllReadyH.nil
   go_simp
   refine (HC4.out _ HB11.out HVuu11.out).mono ?_
   rintro e w12 ⟨dds, dda, ddl, ddc, ddb, ddk, dde, rfl, hr12, hv12⟩
   have HP12 := Lib.hid (BR.block hr12.out HP11.out (by have := HLT.out; have := HPL10.out; omega))
   have HVuu12 := Lib.hid (VQ.benchL HVuu11.out (BR.bench HB11.out) hr12.out.g)
   have HB12 := Lib.hid (BR.trans HB11.out hr12.out)
   have HVdd12 := Lib.hid hv12.out
   clear hr12 hv12
   refine hK.out _ _ ?_ (fun hHeld => ?_)
   ·exact HK.out _ _ HB12.out
   clear hK K
   try simp only [Act.put, zA, zB, zC, zD, zE, zF]
   refine rdy [8] ?_
   refine AllReadyH.cons (by rfl) (fun K hK => ?_) AllReadyH.nil
   go_simp
   refine (HC8.out _ HB12.out HVdd12.out).mono ?_
   rintro e w13 ⟨pps, ppa, ppl, ppc, ppb, ppk, ppe, a9, cp9, rs9, rfl, hr13, hv13, hl9, hc9, hn9⟩
   have HP13 := Lib.hid (BR.block hr13.out HP12.out (by have := HLT.out; have := HPL10.out; omega))
   have HVdd13 := Lib.hid (VQ.benchL HVdd12.out (BR.bench HB12.out) hr13.out.g)
   have HVuu13 := Lib.hid (VQ.benchL HVuu12.out (BR.bench HB12.out) hr13.out.g)
   have HB13 := Lib.hid (BR.trans HB12.out hr13.out)
   have HVpp13 := Lib.hid hv13.out
   have HL9 := Lib.hid (And.intro hl9 (And.intro hc9 hn9))
   clear hr13 hv13 hl9 hc9 hn9
   refine hK.out _ _ ?_ (fun hHeld => ?_)
   ·exact HK.out _ _ HB13.out
   clear hK K
   try simp only [Act.put, zA, zB, zC, zD, zE, zF]
   refine rdy [10] ?_
   refine AllReadyH.cons (by rfl) (fun K hK => ?_) AllReadyH.nil
   obtain ⟨x0, x1, x2, x3, f0, f1, f2, f3⟩ := cellsL4 HP13.out
   go_simp
   have HE := Lib.hid (nm_end (r1 := (uus, (uua, uul, uuc), (uub, uuk, uue))) (r4 := (dds, (dda, ddl, ddc), (ddb, ddk, dde))) HB13.out HT6.out HLT.out HP13.out HPL10.out HVpp13.out HL9.out)
   clear x0 x1 x2 x3 f0 f1 f2 f3
   refine hK.out _ _ ?_ (fun hHeld => ?_)
   ·exact HK.out _ _ HE.out.r
   clear hK K
   try simp only [Act.put, zA, zB, zC, zD, zE, zF]
   refine wpAnyH_done (by kernel_rfl) ?_ _
   refine ⟨(W6.heap.size, (uus, (uua, uul, uuc), (uub, uuk, uue)), (dds, (dda, ddl, ddc), (ddb, ddk, dde)), (pps, (ppa, ppl, ppc), (ppb, ppk, ppe)), a9, rs9, cp9), ?_, HE.out⟩
   simp only [puts, Act.put, zA, zB, zC, zD, zE, zF]
  exact AllReadyH.nil
 rintro ⟨P, ⟨uus, ⟨uua, uul, uuc⟩, ⟨uub, uuk, uue⟩⟩, ⟨dds, ⟨dda, ddl, ddc⟩, ⟨ddb, ddk, dde⟩⟩, ⟨pps, ⟨ppa, ppl, ppc⟩, ⟨ppb, ppk, ppe⟩⟩, a9, rs9, cp9⟩ w8 hS
 simp only [puts, Act.put, zA, zB, zC, zD, zE, zF]
 have HS := Lib.hid hS
 have HOV := Lib.hid (gotO_over hS.r.self)
 clear hS HC2 HC4 HC8
 go_wp2_with fail
 refine HOV.out.mono ?_
 rintro e w13 ⟨rfl, hr13⟩
 have hr613 := HS.out.r.trans hr13.out
 have hR13 := (BR.trans HR0.out.1 HKB.out.2.1).trans hr613
 have hR013 := HKB.out.2.1.trans hr613
 have hz1 := hR013.block HBK.out.2.1 (by have := HR0.out; omega)
 have hz2 := hR013.block HBK.out.2.2 (by have := HR0.out; omega)
 have hPb := hr13.out.block HS.out.blk (by have := HS.out.ge; have := HLT.out; (try dsimp only at *); omega)
 have hKb := hr613.block HKB.out.1 HKB.out.2.2
 have hp13 := HS.out.poly.bench HS.out.r.bench hr13.out
 have hk13 := HK6.out.benchL HBW.out.bench hr613.g
 have hne1 : w.heap.size + 1 ≠ w.heap.size + 1 + 1 := by omega
 have hne2 : w.heap.size + 1 + 1 ≠ w.heap.size + 1 := by omega
 have hP1 : P ≠ w.heap.size + 1 := by have h9 := HKB.out.2.1.size; have := HS.out.ge; have := HR0.out; (try dsimp only at *); omega
 have hP2 : P ≠ w.heap.size + 1 + 1 := by have h9 := HKB.out.2.1.size; have := HS.out.ge; have := HR0.out; (try dsimp only at *); omega
 have hK1 : KB ≠ w.heap.size + 1 := by have := HMB.out; have := HR0.out; omega
 have hK2 : KB ≠ w.heap.size + 1 + 1 := by have := HMB.out; have := HR0.out; omega
 have HE := Lib.hid (fin_normal (cp := cp9) hR13 HR0.out.2.1 HR0.out.2.2.1 (show w.heap.size ≤ w.heap.size + 1 by omega) (show w.heap.size ≤ w.heap.size + 1 + 1 by omega) hne1 hz1 hz2 hp13 hk13)
 obtain ⟨u0, u1, u2, u3, _⟩ := cellsL4 hPb
 obtain ⟨v0, v1, v2, _⟩ := cells3 hKb
 dsimp only at u0 u1 u2 u3
 have HS7 : Hid (_ ∧ _ ∧ _) := Lib.hid (And.intro (And.intro u0 (And.intro u1 (And.intro u2 (And.intro u3 (And.intro v0 (And.intro v1 v2)))))) (And.intro
  (And.intro (putL4_other (R := w.heap.size + 1) (v0 := .bool pps) (v1 := .slice ppa ppl ppc) (v2 := .slice ppb ppk ppe) (v3 := .slice a9 rs9.length cp9) u0 hP1) (And.intro (putL4_other (R := w.heap.size + 1) (v0 := .bool pps) (v1 := .slice ppa ppl ppc) (v2 := .slice ppb ppk ppe) (v3 := .slice a9 rs9.length cp9) u1 hP1) (And.intro (putL4_other (R := w.heap.size + 1) (v0 := .bool pps) (v1 := .slice ppa ppl ppc) (v2 := .slice ppb ppk ppe) (v3 := .slice a9 rs9.length cp9) u2 hP1) (And.intro (putL4_other (R := w.heap.size + 1) (v0 := .bool pps) (v1 := .slice ppa ppl ppc) (v2 := .slice ppb ppk ppe) (v3 := .slice a9 rs9.length cp9) u3 hP1) (And.intro (putL4_other (R := w.heap.size + 1) (v0 := .bool pps) (v1 := .slice ppa ppl ppc) (v2 := .slice ppb ppk ppe) (v3 := .slice a9 rs9.length cp9) v0 hK1) (And.intro (putL4_other (R := w.heap.size + 1) (v0 := .bool pps) (v1 := .slice ppa ppl ppc) (v2 := .slice ppb ppk ppe) (v3 := .slice a9 rs9.length cp9) v1 hK1) (putL4_other (R := w.heap.size + 1) (v0 := .bool pps) (v1 := .slice ppa ppl ppc) (v2 := .slice ppb ppk ppe) (v3 := .slice a9 rs9.length cp9) v2 hK1)))))))
  (And.intro (set3_other (R := w.heap.size + 1 + 1) (s := ks) (v1 := .slice ka kl kc) (v2 := .slice kb kk ke) (putL4_other (R := w.heap.size + 1) (v0 := .bool pps) (v1 := .slice ppa ppl ppc) (v2 := .slice ppb ppk ppe) (v3 := .slice a9 rs9.length cp9) u0 hP1) hP2) (And.intro (set3_other (R := w.heap.size + 1 + 1) (s := ks) (v1 := .slice ka kl kc) (v2 := .slice kb kk ke) (putL4_other (R := w.heap.size + 1) (v0 := .bool pps) (v1 := .slice ppa ppl ppc) (v2 := .slice ppb ppk ppe) (v3 := .slice a9 rs9.length cp9) u1 hP1) hP2) (And.intro (set3_other (R := w.heap.size + 1 + 1) (s := ks) (v1 := .slice ka kl kc) (v2 := .slice kb kk ke) (putL4_other (R := w.heap.size + 1) (v0 := .bool pps) (v1 := .slice ppa ppl ppc) (v2 := .slice ppb ppk ppe) (v3 := .slice a9 rs9.length cp9) u2 hP1) hP2) (And.intro (set3_other (R := w.heap.size + 1 + 1) (s := ks) (v1 := .slice ka kl kc) (v2 := .slice kb kk ke) (putL4_other (R := w.heap.size + 1) (v0 := .bool pps) (v1 := .slice ppa ppl ppc) (v2 := .slice ppb ppk ppe) (v3 := .slice a9 rs9.length cp9) u3 hP1) hP2) (And.intro (set3_other (R := w.heap.size + 1 + 1) (s := ks) (v1 := .slice ka kl kc) (v2 := .slice kb kk ke) (putL4_other (R := w.heap.size + 1) (v0 := .bool pps) (v1 := .slice ppa ppl ppc) (v2 := .slice ppb ppk ppe) (v3 := .slice a9 rs9.length cp9) v0 hK1) hK2) (And.intro (set3_other (R := w.heap.size + 1 + 1) (s := ks) (v1 := .slice ka kl kc) (v2 := .slice kb kk ke) (putL4_other (R := w.heap.size + 1) (v0 := .bool pps) (v1 := .slice ppa ppl ppc) (v2 := .slice ppb ppk ppe) (v3 := .slice a9 rs9.length cp9) v1 hK1) hK2) (set3_other (R := w.heap.size + 1 + 1) (s := ks) (v1 := .slice ka kl kc) (v2 := .slice kb kk ke) (putL4_other (R := w.heap.size + 1) (v0 := .bool pps) (v1 := .slice ppa ppl ppc) (v2 := .slice ppb ppk ppe) (v3 := .slice a9 rs9.length cp9) v2 hK1) hK2)))))))))
 have HC13 := Lib.hid (cellsL4 hz1)
 have hb14 : Blank (putL4 w13 (w.heap.size + 1) (.bool pps) (.slice ppa ppl ppc) (.slice ppb ppk ppe) (.slice a9 rs9.length cp9)) (w.heap.size + 1 + 1) := Blank.grown (show Blank w13 _ from hz2) (putL4_grown _ _ _ _ _ _) (by omega)
 have HC14 := Lib.hid (cells3 hb14)
 have HC15 := Lib.hid (fin_cells (s := ks) (x1 := .slice ka kl kc) (x2 := .slice kb kk ke) (putL4_block hz1 (.bool pps) (.slice ppa ppl ppc) (.slice ppb ppk ppe) (.slice a9 rs9.length cp9)) hb14 hne1)
 obtain ⟨w14, hw14⟩ : ∃ w14, w14 = putL4 w13 (w.heap.size + 1) (.bool pps) (.slice ppa ppl ppc) (.slice ppb ppk ppe) (.slice a9 rs9.length cp9) := ⟨_, rfl⟩
 rw [← hw14] at HS7 HC14 HC15 HE
 obtain ⟨w15, hw15⟩ : ∃ w15, w15 = set3 w14 (w.heap.size + 1 + 1) ks (.slice ka kl kc) (.slice kb kk ke) := ⟨_, rfl⟩
 rw [← hw15] at HS7 HC15 HE
 have HW14 := Lib.hid hw14
 have HW15 := Lib.hid hw15
 clear hw14 hw15 hb14 u0 u1 u2 u3 v0 v1 v2 hP1 hP2 hK1 hK2 hne1 hne2
 clear hr613 hR13 hR013 hz1 hz2 hPb hKb hp13 hk13 hr13 HOV HS
 go_wp2_with fail
 refine wp_region_held_drew (S := (fun w' => w'.cell? ⟨P, 0, none⟩ = some (.bool pps) ∧ w'.cell? ⟨P, 1, none⟩ = some (.slice ppa ppl ppc) ∧ w'.cell? ⟨P, 2, none⟩ = some (.slice ppb ppk ppe) ∧ w'.cell? ⟨P, 3, none⟩ = some (.slice a9 rs9.length cp9) ∧ w'.cell? ⟨KB, 0, none⟩ = some (.bool ks) ∧ w'.cell? ⟨KB, 1, none⟩ = some (.slice ka kl kc) ∧ w'.cell? ⟨KB, 2, none⟩ = some (.slice kb kk ke))) (by kernel_rfl) ?_ (fun hHeld => ?_)
 ·exact HS7.out.1
 refine tkV 0 hHeld ?_
 try simp only [Act.put, zA, zB, zC, zD, zE, zF]
 refine tkV 1 hHeld ?_
 try simp only [Act.put, zA, zB, zC, zD, zE, zF]
 refine rdy [2] ?_
 refine AllReadyH.cons (by rfl) (fun K hK => ?_) AllReadyH.nil
 obtain ⟨q0, q1, q2, q3, n0, n1, n2, n3⟩ := HC13.out
 go_simp
 change K _ (putL4 w13 (w.heap.size + 1) (.bool pps) (.slice ppa ppl ppc) (.slice ppb ppk ppe) (.slice a9 rs9.length cp9)).drew
 rw [← HW14.out]
 clear q0 q1 q2 q3 n0 n1 n2 n3
 refine hK.out _ _ ?_ (fun hHeld => ?_)
 ·exact HS7.out.2.1
 clear hK K
 try simp only [Act.put, zA, zB, zC, zD, zE, zF]
 refine rdy [3] ?_
 refine AllReadyH.cons (by rfl) (fun K hK => ?_) AllReadyH.nil
 obtain ⟨q0, q1, q2, n0, n1, n2⟩ := HC14.out
 go_simp
 change K _ (set3 w14 (w.heap.size + 1 + 1) ks (.slice ka kl kc) (.slice kb kk ke)).drew
 rw [← HW15.out]
 clear q0 q1 q2 n0 n1 n2
 refine hK.out _ _ ?_ (fun hHeld => ?_)
 ·exact HS7.out.2.2
 clear hK K
 try simp only [Act.put, zA, zB, zC, zD, zE, zF]
 refine wpAnyH_done (by kernel_rfl) ?_ _
 clear hHeld
 obtain ⟨q0, q1, q2, q3, r0, r1, r2⟩ := HC15.out
 go_wp2_with fail
 exact bodyPost_ret (v := .tuple #[.agg #[.bool pps, .slice ppa ppl ppc, .slice ppb ppk ppe, .slice a9 rs9.length cp9], .agg #[.bool ks, .slice ka kl kc, .slice kb kk ke]]) (by simp [results, Tryz.results26, go_sem, q0, q1, q2, q3, r0, r1, r2]) rfl HE.out
end Go.Proofs.YtpjeecahaeaajaaGreatDoor

namespace Go.Proofs.YtpjeecahaeaajaaGreatDoor
open Go.RowKit Rep Ln
theorem vq_right {W : World} {s : Bool} {a1 a2 : Option Addr} {c1 c2 : Nat} {xs ds : List Nat} (h : HandR W a1 c1 xs a2 c2 ds) (hr : rightB s xs ds = true) (lx : xs.length ≤ 6) (ld : ds.length ≤ 6) :
    VQ (qOf s xs ds) (s, (a1, xs.length, c1), (a2, ds.length, c2)) W ∧ szQ (qOf s xs ds) ≤ 6 := by
 obtain ⟨h1, h2, h3⟩ := of_decide_eq_true hr
 generalize qOf s xs ds = q at *
 have e1 : xs.length = (L (mgQ q)).length := congrArg List.length h2
 have e2 : ds.length = (L (denN q.den)).length := congrArg List.length h3
 have hs : szQ q ≤ 6 := by unfold szQ; omega
 refine ⟨⟨h1, e1, e2, ⟨⟨?_, ?_, h.num.cap⟩, ⟨?_, ?_, h.den.cap⟩⟩⟩, hs⟩
 ·show Reads W a1 ((L (mgQ q)).map u32v); rw [← h2]; exact h.num.reads
 ·show (L (mgQ q)).length ≤ c1; rw [← h2]; exact h.num.le
 ·show Reads W a2 ((L (denN q.den)).map u32v); rw [← h3]; exact h.den.reads
 ·show (L (denN q.den)).length ≤ c2; rw [← h3]; exact h.den.le
theorem great_len {s : Bool} {a1 a2 : Option Addr} {c1 c2 l1 l2 : Nat} (h : greatB [(s, (a1, l1, c1), (a2, l2, c2))] = false) : l1 ≤ 6 ∧ l2 ≤ 6 := by
 simp [greatB] at h
 omega
theorem right_nz {s : Bool} {xs ds : List Nat} (h : rightB s xs ds = true) (hx : xs.length ≠ 0) : qOf s xs ds ≠ 0 := by
 obtain ⟨-, h2, -⟩ := of_decide_eq_true h
 intro h0
 rw [h0] at h2
 have h3 : L (mgQ 0) = [] := by decide +kernel
 rw [h3] at h2
 exact hx (by rw [h2]; rfl)
def HM.mo (d : HM) : Mo := (d.v, qOf d.s d.xs d.ds)
def HM.rm (d : HM) : RM := ⟨d.v, d.s, d.a1, d.xs.length, d.c1, d.a2, d.ds.length, d.c2⟩
def HPo.mos (p : HPo) : List Mo := p.hs.map HM.mo
def HPo.rms (p : HPo) : List RM := p.hs.map HM.rm
def HPo.c (p : HPo) : Rat := qOf p.s p.xs p.ds
theorem rightMs_fit : ∀ {hs : List HM} {p : Int}, rightMs p hs = true → (∀ d ∈ hs, p < d.v ∧ d.right = true ∧ d.xs.length ≠ 0) ∧ Fit (hs.map HM.mo)
 | [], _, _ => ⟨by simp, Fit.nil⟩
 | d :: l, p, h => by
  unfold rightMs at h
  simp only [Bool.and_eq_true, decide_eq_true_eq] at h
  obtain ⟨h1, h2, h3, h4⟩ := h
  obtain ⟨i1, i2⟩ := rightMs_fit h4
  refine ⟨fun x hx => ?_, ⟨List.pairwise_cons.2 ⟨fun x hx => ?_, i2.up⟩, fun x hx => ?_⟩⟩
  ·rcases List.mem_cons.1 hx with rfl | hx
   ·exact ⟨h1, h2, h3⟩
   ·obtain ⟨j1, j2⟩ := i1 x hx
    exact ⟨by omega, j2⟩
  ·obtain ⟨y, hy, rfl⟩ := List.mem_map.1 hx
   exact (i1 y hy).1
  ·rcases List.mem_cons.1 hx with rfl | hx
   ·exact right_nz h2 h3
   ·exact i2.nz x hx
structure SmP (W : World) (p : HPo) : Prop where
 poly : PolyAt p.c p.mos p.raw p.a p.rms W
 len : p.hs.length ≤ 12
 fit : Fit p.mos
 zc : szQ p.c ≤ 6
 zm : ∀ x ∈ p.mos, szQ x.2 ≤ 6
 pos : ∀ x ∈ p.mos, 0 ≤ x.1
theorem not_odd12 {W : World} {p : HPo} (h : HandPo W p) (ho : oddPo p = false) : SmP W p := by
 unfold oddPo at ho
 simp only [Bool.or_eq_false_iff, Bool.not_eq_false', decide_eq_false_iff_not] at ho
 obtain ⟨h1, h2, h3, h4⟩ := ho
 unfold rightP at h3
 rw [Bool.and_eq_true] at h3
 obtain ⟨l1, l2⟩ := great_len h2
 obtain ⟨v1, v2⟩ := vq_right h.num h3.1 l1 l2
 obtain ⟨f1, f2⟩ := rightMs_fit h3.2
 have hall : ∀ d ∈ p.hs, VQ d.mo.2 d.rm.raw W ∧ szQ d.mo.2 ≤ 6 := fun d hd => by
  have hg : gM d = false := by
   rw [List.any_eq_false] at h4
   simpa using h4 d hd
  obtain ⟨m1, m2⟩ := great_len hg
  exact vq_right (h.ms.nums d hd).1 (f1 d hd).2.1 m1 m2
 refine ⟨⟨v1, ⟨?_, by simp [HPo.rms, HPo.mos], fun k d m hd hm => ?_⟩⟩, by omega, f2, v2, fun x hx => ?_, fun x hx => ?_⟩
 ·rcases h.ms.mem with e | ⟨g, off, e, hr⟩
  ·exact .inl (by unfold HPo.rms; rw [e]; rfl)
  ·refine .inr ⟨g, off, e, fun k d hd => ?_⟩
   unfold HPo.rms at hd
   rw [List.getElem?_map] at hd
   obtain ⟨y, hy, rfl⟩ := Option.map_eq_some_iff.1 hd
   exact hr k y hy
 ·unfold HPo.rms at hd
  unfold HPo.mos at hm
  rw [List.getElem?_map] at hd hm
  obtain ⟨y, hy, rfl⟩ := Option.map_eq_some_iff.1 hd
  rw [hy] at hm
  cases hm
  exact ⟨rfl, (hall y (List.mem_of_getElem? hy)).1⟩
 ·obtain ⟨y, hy, rfl⟩ := List.mem_map.1 hx
  exact (hall y hy).2
 ·obtain ⟨y, hy, rfl⟩ := List.mem_map.1 hx
  have := (f1 y hy).1
  show 0 ≤ y.v
  omega
end Go.Proofs.YtpjeecahaeaajaaGreatDoor

namespace Go.Proofs.YtpjeecahaeaajaaGreatDoor
open Go.RowKit Rep Ln
end Go.Proofs.YtpjeecahaeaajaaGreatDoor

namespace Go.Proofs.YtpjeecahaeaajaaGreatDoor
open Go.RowKit Rep Ln
def GotOne (w : World) (v : Int) (e : Ending) (W' : World) : Prop :=
 ∃ a d, e = .returned (.agg #[.bool false, .slice none 0 0, .slice none 0 0, .slice a 1 1]) ∧ Hid (Below w.heap.size w W') ∧ Hid (PolyAt 0 [(v, 1)] (false, (none, 0, 0), (none, 0, 0)) a [d] W')
theorem one_end {w W5 : World} {v : Int} {s : Bool} {z1 z2 : Option Addr} {m1 k1 m2 k2 R : Nat} (hb : Below w.heap.size w W5) (hR : w.heap.size ≤ R) (h0 : W5.heap[R]? = some (.cells #[.bool false, .slice none 0 0, .slice none 0 0, .slice none 0 0] 30 (0, 0))) (hv : VQ 1 (s, (z1, m1, k1), (z2, m2, k2)) W5) :
    GotOne w v (.returned (.agg #[.bool false, .slice none 0 0, .slice none 0 0, .slice (some ⟨W5.heap.size, 0, none⟩) 1 1])) (putL4 (W5.alloc (.cells #[.int .i64 v, .bool s, .slice z1 m1 k1, .slice z2 m2 k2] 51)) R (.bool false) (.slice none 0 0) (.slice none 0 0) (.slice (some ⟨W5.heap.size, 0, none⟩) 1 1)) := by
 have hal := (Below.refl W5.heap.size W5).alloc (Nat.le_refl _) (.cells #[.int .i64 v, .bool s, .slice z1 m1 k1, .slice z2 m2 k2] 51)
 have h1 := stayL h0 hal
 have hg := putL4_grown (W5.alloc (.cells #[.int .i64 v, .bool s, .slice z1 m1 k1, .slice z2 m2 k2] 51)) R (.bool false) (.slice none 0 0) (.slice none 0 0) (.slice (some ⟨W5.heap.size, 0, none⟩) 1 1)
 have hb2 := hb.trans (hal.mono hb.size)
 have hp : PolyAt 0 [(v, 1)] (false, (none, 0, 0), (none, 0, 0)) (some ⟨W5.heap.size, 0, none⟩) [⟨v, s, z1, m1, k1, z2, m2, k2⟩] (W5.alloc (.cells #[.int .i64 v, .bool s, .slice z1 m1 k1, .slice z2 m2 k2] 51)) := by
  refine ⟨VQ.zero _, ⟨.inr ⟨_, 0, rfl, fun k d hd j u hu => ?_⟩, rfl, fun k d m hd hm => ?_⟩⟩
  ·rcases k with _ | k
   ·simp at hd; subst hd
    rcases j with _ | _ | _ | _ | j <;> simp [RM.cells] at hu <;> subst hu <;> simp
   ·simp at hd
  ·rcases k with _ | k
   ·simp at hd hm; subst hd hm
    exact ⟨rfl, hv.kept hal⟩
   ·simp at hd
 exact ⟨_, _, rfl, Lib.hid (hb2.grown hg hb2.size (fun j hj => by cases hj; exact hR)), Lib.hid (hp.past (poly_noI h1) hg)⟩
set_option maxRecDepth 100000 in
set_option maxHeartbeats 4000000 in
theorem Of12_any {w : World} {v : Int} : Calls Tryz.prog 20 #[.int .i64 v] w (GotOne w v) := by
 have hb0 : Below w.heap.size w (w.alloc (.cells #[.bool false, .slice none 0 0, .slice none 0 0, .slice none 0 0] 30)) := (Below.refl _ _).alloc (Nat.le_refl _) _
 have h0 : (w.alloc (.cells #[.bool false, .slice none 0 0, .slice none 0 0, .slice none 0 0] 30)).heap[w.heap.size]? = some (.cells #[.bool false, .slice none 0 0, .slice none 0 0, .slice none 0 0] 30 (0, 0)) := heap_alloc_new w _
 have HO := Lib.hid (ofL 1 (by omega) (by omega) (w.alloc (.cells #[.bool false, .slice none 0 0, .slice none 0 0, .slice none 0 0] 30)))
 have HB0 := Lib.hid (And.intro hb0 h0)
 clear hb0 h0
 go_enter Tryz.func20, Tryz.ntmps20
 go_wp2_with fail
 refine HO.out.mono ?_
 rintro e w5 ⟨s, z1, m1, k1, z2, m2, k2, rfl, hb5, hv5⟩
 have hb := HB0.out.1.trans (hb5.out.mono HB0.out.1.size)
 have h5 := stayL HB0.out.2 hb5.out
 have hv := hv5.out
 rw [qI_one] at hv
 have HE := Lib.hid (one_end (v := v) hb (Nat.le_refl _) h5 hv)
 have hal := (Below.refl w5.heap.size w5).alloc (Nat.le_refl _) (.cells #[.int .i64 v, .bool s, .slice z1 m1 k1, .slice z2 m2 k2] 51)
 have h6 := stayL h5 hal
 obtain ⟨q0, q1, q2, q3, n0, n1, n2, n3⟩ := cellsL4 h6
 have HC := Lib.hid (cellsL4 (putL4_block h6 (.bool false) (.slice none 0 0) (.slice none 0 0) (.slice (some ⟨w5.heap.size, 0, none⟩) 1 1)))
 clear hb h5 hv hal h6 hb5 hv5 HO HB0
 go_wp2_with fail
 clear q0 q1 q2 q3 n0 n1 n2 n3
 obtain ⟨q0, q1, q2, q3, _⟩ := HC.out
 obtain ⟨W9, hW9⟩ : ∃ W9, W9 = putL4 (w5.alloc (.cells #[.int .i64 v, .bool s, .slice z1 m1 k1, .slice z2 m2 k2] 51)) w.heap.size (.bool false) (.slice none 0 0) (.slice none 0 0) (.slice (some ⟨w5.heap.size, 0, none⟩) 1 1) := ⟨_, rfl⟩
 rw [← hW9] at q0 q1 q2 q3 HE
 change bodyPost _ _ _ _ _ (putL4 (w5.alloc (.cells #[.int .i64 v, .bool s, .slice z1 m1 k1, .slice z2 m2 k2] 51)) w.heap.size (.bool false) (.slice none 0 0) (.slice none 0 0) (.slice (some ⟨w5.heap.size, 0, none⟩) 1 1))
 rw [← hW9]
 clear hW9 HC
 exact bodyPost_ret (v := .agg #[.bool false, .slice none 0 0, .slice none 0 0, .slice (some ⟨w5.heap.size, 0, none⟩) 1 1]) (by simp [results, Tryz.results20, go_sem, q0, q1, q2, q3]) rfl HE.out
end Go.Proofs.YtpjeecahaeaajaaGreatDoor

namespace Go.Proofs.YtpjeecahaeaajaaGreatDoor
open Go.RowKit Rep Ln
theorem spk_o1 : addO 2 false (qI 3) [] (qI 2) 0 [((0 : Int), (1 : Rat))] = false := by decide +kernel
theorem spk_c1 : qI 3 + qI 2 * 0 = 3 := by decide +kernel
theorem spk_m1 : merge [] (scale (qI 2) [((0 : Int), (1 : Rat))]) = [((0 : Int), (2 : Rat))] := by decide +kernel
theorem spk_o2 : addO 2 false 3 [((0 : Int), (2 : Rat))] (qI (-1)) 0 [((1 : Int), (1 : Rat))] = false := by decide +kernel
theorem spk_c2 : (3 : Rat) + qI (-1) * 0 = 3 := by decide +kernel
theorem spk_m2 : merge [((0 : Int), (2 : Rat))] (scale (qI (-1)) [((1 : Int), (1 : Rat))]) = [((0 : Int), (2 : Rat)), ((1 : Int), (-1 : Rat))] := by decide +kernel
theorem spk_n1 : ovQ 2 (2 : Rat) = false := by decide +kernel
theorem spk_n2 : ovQ 2 (1 / (2 : Rat)) = false := by decide +kernel
theorem spk_n3 : ovQ 2 ((1 / (2 : Rat)) * 0) = false := by decide +kernel
theorem spk_n4 : scaleO 2 (1 / (2 : Rat)) [((0 : Int), (2 : Rat)), ((1 : Int), (-1 : Rat))] = false := by decide +kernel
theorem spk_m3 : scale (1 / (2 : Rat)) [((0 : Int), (2 : Rat)), ((1 : Int), (-1 : Rat))] = [((0 : Int), (1 : Rat)), ((1 : Int), (-1 / 2 : Rat))] := by decide +kernel
theorem spk_t1 : textQ (-1 / 2) = ⟨#[45, 49, 47, 50]⟩ := by decide +kernel
theorem spk_t2 : textQ 2 = ⟨#[50]⟩ := by decide +kernel
theorem spk_s1 : szQ (qI 2) ≤ 400 ∧ szQ (qI 3) ≤ 400 ∧ szQ (qI (-1)) ≤ 400 ∧ szQ (1 : Rat) ≤ 400 ∧ szQ (2 : Rat) ≤ 400 ∧ szQ (3 : Rat) ≤ 400 ∧ szQ (-1 : Rat) ≤ 400 ∧ szQ (0 : Rat) ≤ 400 ∧ szQ (-1 / 2 : Rat) ≤ 400 := by decide +kernel
end Go.Proofs.YtpjeecahaeaajaaGreatDoor

namespace Go.Proofs.YtpjeecahaeaajaaGreatDoor
open Go.RowKit Rep Ln
theorem spk_add1 {w : World} {b : Nat} {s t : Bool} {z1 z2 y1 y2 a : Option Addr} {m1 k1 m2 k2 n1 j1 n2 j2 : Nat} {d : RM} (hB : Bench w b 2 false) (hT : Tab w) (h3 : VQ (qI 3) (s, (z1, m1, k1), (z2, m2, k2)) w) (h2 : VQ (qI 2) (t, (y1, n1, j1), (y2, n2, j2)) w) (h0 : PolyAt 0 [((0 : Int), (1 : Rat))] (false, (none, 0, 0), (none, 0, 0)) a [d] w) :
    Calls Tryz.prog 16 #[.pointer (some ⟨b, 0, none⟩), .agg #[.bool s, .slice z1 m1 k1, .slice z2 m2 k2, .slice none 0 0], .agg #[.bool t, .slice y1 n1 j1, .slice y2 n2 j2], .agg #[.bool false, .slice none 0 0, .slice none 0 0, .slice a 1 1]] w (GotP b 2 false w 3 [((0 : Int), (2 : Rat))]) := by
 obtain ⟨e1, e2, e3, e4, e5, e6, e7, e8, e9⟩ := spk_s1
 have := Add_p (cp1 := 0) (cp2 := 1) hB hT (⟨h3, MsAt.nil w none⟩ : PolyAt (qI 3) [] _ none [] w) h2 h0 e1 e2 (by simp) e8 (by simp [e4]) (by simp) (by simp)
 rw [spk_o1, spk_c1, spk_m1] at this
 exact this
theorem spk_add2 {w : World} {b : Nat} {s t u : Bool} {x1 x2 z1 z2 y1 y2 a a1 : Option Addr} {l1 i1 l2 i2 m1 k1 m2 k2 n1 j1 n2 j2 cp : Nat} {d : RM} {rs : List RM} (hB : Bench w b 2 false) (hT : Tab w) (h3 : PolyAt 3 [((0 : Int), (2 : Rat))] (s, (z1, m1, k1), (z2, m2, k2)) a1 rs w) (h2 : VQ (qI (-1)) (t, (y1, n1, j1), (y2, n2, j2)) w) (h0 : PolyAt 0 [((1 : Int), (1 : Rat))] (u, (x1, l1, i1), (x2, l2, i2)) a [d] w) :
    Calls Tryz.prog 16 #[.pointer (some ⟨b, 0, none⟩), .agg #[.bool s, .slice z1 m1 k1, .slice z2 m2 k2, .slice a1 rs.length cp], .agg #[.bool t, .slice y1 n1 j1, .slice y2 n2 j2], .agg #[.bool u, .slice x1 l1 i1, .slice x2 l2 i2, .slice a 1 1]] w (GotP b 2 false w 3 [((0 : Int), (2 : Rat)), ((1 : Int), (-1 : Rat))]) := by
 obtain ⟨e1, e2, e3, e4, e5, e6, e7, e8, e9⟩ := spk_s1
 have hl := h3.ms.len
 have := Add_p (cp1 := cp) (cp2 := 1) hB hT h3 h2 h0 e3 e6 (by simp [e5]) e8 (by simp [e4]) (by simp at hl; omega) (by simp)
 rw [spk_o2, spk_c2, spk_m2] at this
 exact this
theorem spk_norm {w : World} {b : Nat} {s : Bool} {z1 z2 a1 : Option Addr} {m1 k1 m2 k2 cp : Nat} {rs : List RM} (hB : Bench w b 2 false) (hT : Tab w) (h3 : PolyAt 3 [((0 : Int), (2 : Rat)), ((1 : Int), (-1 : Rat))] (s, (z1, m1, k1), (z2, m2, k2)) a1 rs w) :
    Calls Tryz.prog 26 #[.pointer (some ⟨b, 0, none⟩), .agg #[.bool s, .slice z1 m1 k1, .slice z2 m2 k2, .slice a1 rs.length cp]] w (GotN b 2 w ((1 / (2 : Rat)) * 0) [((0 : Int), (1 : Rat)), ((1 : Int), (-1 / 2 : Rat))] 2) := by
 obtain ⟨e1, e2, e3, e4, e5, e6, e7, e8, e9⟩ := spk_s1
 have hl := h3.ms.len
 have := Normal_p (cp := cp) hB hT h3 (by simp [e5, e7]) (by simp at hl; omega) spk_n1 spk_n2 spk_n3 spk_n4
 dsimp only at this
 rw [spk_m3] at this
 exact this
end Go.Proofs.YtpjeecahaeaajaaGreatDoor
