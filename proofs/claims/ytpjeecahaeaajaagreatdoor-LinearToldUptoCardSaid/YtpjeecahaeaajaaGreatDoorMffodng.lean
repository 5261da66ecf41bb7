/- By program out of: LnSpkW, LnOver, LnNorm. -/
import Derived.Test.YtpjeecahaeaajaaGreatDoorMocjmoc
import Derived.Test.YtpjeecahaeaajaaGreatDoorMmkloij
import Derived.Test.YtpjeecahaeaajaaGreatDoorMhcfcca
set_option linter.unusedVariables false
set_option linter.unusedSimpArgs false
namespace Go.Proofs.YtpjeecahaeaajaaGreatDoor
open Go.RowKit Rep Ln
theorem text_vq {q : Rat} {s : Bool} {z1 z2 : Option Addr} {m1 k1 m2 k2 : Nat} {W : World} (h : VQ q (s, (z1, m1, k1), (z2, m2, k2)) W) (hs : szQ q ≤ 400) : Calls Tryz.prog 27 #[.agg #[.bool s, .slice z1 m1 k1, .slice z2 m2 k2]] W (GivesTx (textQ q) W) := by
 obtain ⟨h0, h1, h2, h3⟩ := h
 dsimp only at h0 h1 h2 h3
 subst h0 h1 h2
 exact Text_q h3 (by omega)
theorem poly_left {c : Rat} {ms : List Mo} {v : RawR} {a : Option Addr} {rs : List RM} {W : World} (h : PolyAt (leftQ false c) (leftM false ms) v a rs W) : PolyAt c ms v a rs W := h
structure Sp (b : Nat) (W6 : World) (P Q : Option Nat) (V : World → Prop) (W : World) : Prop where
 r : BR b 2 false W6 W
 p : ∀ g, P = some g → W6.heap.size ≤ g ∧ W.heap[g]? = some (.cells #[.bool false, .slice none 0 0, .slice none 0 0, .slice none 0 0] 30 (0, 0))
 q : ∀ g, Q = some g → W6.heap.size ≤ g ∧ W.heap[g]? = some (.cells #[.bool false, .slice none 0 0, .slice none 0 0] 27 (0, 0))
 v : ∀ W', BR b 2 false W W' → V W'
section
variable {b : Nat} {W6 W W' : World} {P Q : Option Nat} {V V' : World → Prop}
theorem Sp.step (h : Sp b W6 P Q V W) (hb : b < W6.heap.size) (k : BR b 2 false W W') (v : ∀ X, BR b 2 false W' X → V' X) : Sp b W6 P Q V' W' :=
 ⟨h.r.trans k, fun g e => ⟨(h.p g e).1, k.block (h.p g e).2 (by have := (h.p g e).1; omega)⟩, fun g e => ⟨(h.q g e).1, k.block (h.q g e).2 (by have := (h.q g e).1; omega)⟩, v⟩
theorem Sp.now (h : Sp b W6 P Q V W) : V W := h.v _ h.r.self
theorem Sp.allocP (h : Sp b W6 none Q V W) (hb : b < W6.heap.size) : Sp b W6 (some W.heap.size) Q V (W.alloc (.cells #[.bool false, .slice none 0 0, .slice none 0 0, .slice none 0 0] 30)) := by
 have k := h.r.self.kept ((Below.refl W.heap.size W).alloc (Nat.le_refl _) (.cells #[.bool false, .slice none 0 0, .slice none 0 0, .slice none 0 0] 30))
 have hs := h.step hb k (fun X hX => h.v X (k.trans hX))
 exact ⟨hs.r, fun g e => by cases e; exact ⟨h.r.size, heap_alloc_new W _⟩, hs.q, hs.v⟩
theorem Sp.allocQ (h : Sp b W6 P none V W) (hb : b < W6.heap.size) : Sp b W6 P (some W.heap.size) V (W.alloc (.cells #[.bool false, .slice none 0 0, .slice none 0 0] 27)) := by
 have k := h.r.self.kept ((Below.refl W.heap.size W).alloc (Nat.le_refl _) (.cells #[.bool false, .slice none 0 0, .slice none 0 0] 27))
 have hs := h.step hb k (fun X hX => h.v X (k.trans hX))
 exact ⟨hs.r, hs.p, fun g e => by cases e; exact ⟨h.r.size, heap_alloc_new W _⟩, hs.v⟩
theorem sp_of (h : Sp b W6 P Q (fun _ => True) W) (hb : b < W6.heap.size) : Calls Tryz.prog 21 #[.int .i64 (-1)] W (fun e W' => ∃ s z1 m1 k1 z2 m2 k2, e = .returned (.agg #[.bool s, .slice z1 m1 k1, .slice z2 m2 k2]) ∧ Hid (Sp b W6 P Q (VQ (qI (-1)) (s, (z1, m1, k1), (z2, m2, k2))) W')) :=
 (ofL (-1) (by omega) (by omega) W).mono fun e W' hg => by
  obtain ⟨s, z1, m1, k1, z2, m2, k2, rfl, h1, h2⟩ := hg
  have k := h.r.self.kept h1.out
  exact ⟨_, _, _, _, _, _, _, rfl, Lib.hid (h.step hb k fun X hX => h2.out.benchL k.bench hX.g)⟩
theorem sp_one {r : RawR} (h : Sp b W6 P Q (VQ (qI (-1)) r) W) (hb : b < W6.heap.size) : Calls Tryz.prog 20 #[.int .i64 1] W (fun e W' => ∃ a d, e = .returned (.agg #[.bool false, .slice none 0 0, .slice none 0 0, .slice a 1 1]) ∧ Hid (Sp b W6 P Q (fun X => VQ (qI (-1)) r X ∧ PolyAt 0 [((1 : Int), (1 : Rat))] (false, (none, 0, 0), (none, 0, 0)) a [d] X) W')) :=
 (Of12_any (w := W) (v := 1)).mono fun e W' hg => by
  obtain ⟨a, d, rfl, h1, h2⟩ := hg
  have k := h.r.self.kept h1.out
  exact ⟨_, _, rfl, Lib.hid (h.step hb k fun X hX => ⟨h.v X (k.trans hX), h2.out.bench k.bench hX⟩)⟩
theorem sp_add {t s : Bool} {y1 y2 z1 z2 a a1 : Option Addr} {n1 j1 n2 j2 m1 k1 m2 k2 n cp : Nat} {d : RM} {rs : List RM} (h : Sp b W6 P Q (fun X => VQ (qI (-1)) (t, (y1, n1, j1), (y2, n2, j2)) X ∧ PolyAt 0 [((1 : Int), (1 : Rat))] (false, (none, 0, 0), (none, 0, 0)) a [d] X) W) (hb : b < W6.heap.size)
    (hp : PolyAt (leftQ false 3) (leftM false [((0 : Int), (2 : Rat))]) (s, (z1, m1, k1), (z2, m2, k2)) a1 rs W6 ∧ Bench W6 b 2 false) (hn : rs.length = n) :
    Calls Tryz.prog 16 #[.pointer (some ⟨b, 0, none⟩), .agg #[.bool s, .slice z1 m1 k1, .slice z2 m2 k2, .slice a1 n cp], .agg #[.bool t, .slice y1 n1 j1, .slice y2 n2 j2], .agg #[.bool false, .slice none 0 0, .slice none 0 0, .slice a 1 1]] W (fun e W' => ∃ s' z1' m1' k1' z2' m2' k2' a' cp' rs', e = .returned (.agg #[.bool s', .slice z1' m1' k1', .slice z2' m2' k2', .slice a' (List.length rs') cp']) ∧ Hid (Sp b W6 P Q (PolyAt 3 [((0 : Int), (2 : Rat)), ((1 : Int), (-1 : Rat))] (s', (z1', m1', k1'), (z2', m2', k2')) a' rs') W')) := by
 subst hn
 refine (spk_add2 (cp := cp) h.r.bench h.r.tab ((poly_left hp.1).bench hp.2 h.r) h.now.1 h.now.2).mono fun e W' hg => ?_
 obtain ⟨s', z1', m1', k1', z2', m2', k2', a', cp', rs', rfl, h1, h2, -, -, -⟩ := hg
 exact ⟨_, _, _, _, _, _, _, _, _, _, rfl, Lib.hid (h.step hb h1.out fun X hX => (poly_left h2.out).bench h1.out.bench hX)⟩
theorem sp_norm {s : Bool} {z1 z2 a1 : Option Addr} {m1 k1 m2 k2 cp : Nat} {rs : List RM} (h : Sp b W6 P Q (PolyAt 3 [((0 : Int), (2 : Rat)), ((1 : Int), (-1 : Rat))] (s, (z1, m1, k1), (z2, m2, k2)) a1 rs) W) (hb : b < W6.heap.size) :
    Calls Tryz.prog 26 #[.pointer (some ⟨b, 0, none⟩), .agg #[.bool s, .slice z1 m1 k1, .slice z2 m2 k2, .slice a1 rs.length cp]] W (fun e W' => ∃ s' z1' m1' k1' z2' m2' k2' a' cp' rs' t y1 n1 j1 y2 n2 j2, e = .returned (.tuple #[.agg #[.bool s', .slice z1' m1' k1', .slice z2' m2' k2', .slice a' (List.length rs') cp'], .agg #[.bool t, .slice y1 n1 j1, .slice y2 n2 j2]]) ∧
     Hid (Sp b W6 P Q (fun X => PolyAt ((1 / (2 : Rat)) * 0) [((0 : Int), (1 : Rat)), ((1 : Int), (-1 / 2 : Rat))] (s', (z1', m1', k1'), (z2', m2', k2')) a' rs' X ∧ VQ 2 (t, (y1, n1, j1), (y2, n2, j2)) X) W')) := by
 refine (spk_norm (cp := cp) h.r.bench h.r.tab h.now).mono fun e W' hg => ?_
 obtain ⟨s', z1', m1', k1', z2', m2', k2', a', cp', rs', t, y1, n1, j1, y2, n2, j2, rfl, h1, h2, h3⟩ := hg
 exact ⟨_, _, _, _, _, _, _, _, _, _, _, _, _, _, _, _, _, rfl, Lib.hid (h.step hb h1.out fun X hX => ⟨h2.out.bench h1.out.bench hX, h3.out.benchL h1.out.bench hX.g⟩)⟩
end
structure SpkI where
 P : Nat
 Q : Nat
 m : RawR
 oa : Option Addr
 p : RawR
 pa : Option Addr
 pl : Nat
 pc : Nat
 q : RawR
 qa : Option Addr
 qr : List RM
 qc : Nat
 k : RawR
structure SpkAt (W6 : World) (b : Nat) (i : SpkI) (W : World) : Prop where
 r : BR b 2 false W6 W
 bP : W.heap[i.P]? = some (.cells #[.bool i.q.1, .slice i.q.2.1.1 i.q.2.1.2.1 i.q.2.1.2.2, .slice i.q.2.2.1 i.q.2.2.2.1 i.q.2.2.2.2, .slice i.qa i.qr.length i.qc] 30 (0, 0))
 bQ : W.heap[i.Q]? = some (.cells #[.bool i.k.1, .slice i.k.2.1.1 i.k.2.1.2.1 i.k.2.1.2.2, .slice i.k.2.2.1 i.k.2.2.2.1 i.k.2.2.2.2] 27 (0, 0))
 poly : PolyAt ((1 / (2 : Rat)) * 0) [((0 : Int), (1 : Rat)), ((1 : Int), (-1 / 2 : Rat))] i.q i.qa i.qr W
 num : VQ 2 i.k W
structure SpE (W6 : World) (b P Q : Nat) (v : RawR) (a : Option Addr) (rs : List RM) (cp : Nat) (k : RawR) (W : World) : Prop where
 r : BR b 2 false W6 W
 ge : W6.heap.size ≤ Q
 ne : P ≠ Q
 p : W.heap[P]? = some (.cells #[.bool v.1, .slice v.2.1.1 v.2.1.2.1 v.2.1.2.2, .slice v.2.2.1 v.2.2.2.1 v.2.2.2.2, .slice a rs.length cp] 30 (0, 0))
 q : W.heap[Q]? = some (.cells #[.bool false, .slice none 0 0, .slice none 0 0] 27 (0, 0))
 poly : PolyAt ((1 / (2 : Rat)) * 0) [((0 : Int), (1 : Rat)), ((1 : Int), (-1 / 2 : Rat))] v a rs W
 num : VQ 2 k W
theorem sp_stP {W6 W : World} {b P Q : Nat} {s t : Bool} {z1 z2 y1 y2 a : Option Addr} {m1 k1 m2 k2 n1 j1 n2 j2 cp : Nat} {rs : List RM} (h : Sp b W6 (some P) (some Q) (fun X => PolyAt ((1 / (2 : Rat)) * 0) [((0 : Int), (1 : Rat)), ((1 : Int), (-1 / 2 : Rat))] (s, (z1, m1, k1), (z2, m2, k2)) a rs X ∧ VQ 2 (t, (y1, n1, j1), (y2, n2, j2)) X) W) (hT : Tab W6) (hb : b < W6.heap.size) :
    SpE W6 b P Q (s, (z1, m1, k1), (z2, m2, k2)) a rs cp (t, (y1, n1, j1), (y2, n2, j2)) (putL4 W P (.bool s) (.slice z1 m1 k1) (.slice z2 m2 k2) (.slice a rs.length cp)) := by
 obtain ⟨p1, p2⟩ := h.p _ rfl
 obtain ⟨q1, q2⟩ := h.q _ rfl
 have hne : P ≠ Q := by rintro rfl; rw [p2] at q2; simp at q2
 have hg := putL4_grown W P (.bool s) (.slice z1 m1 k1) (.slice z2 m2 k2) (.slice a rs.length cp)
 exact ⟨h.r.setL hT hb p1 _ _ _ _, q1, hne, putL4_block p2 _ _ _ _, Blank.grown (show Blank _ _ from q2) hg (fun e => hne e.symm), h.now.1.past (poly_noI p2) hg, h.now.2.pastL (poly_noI p2).2 hg⟩
theorem spk_end {W6 W : World} {b P Q : Nat} {m pr : RawR} {oa pa : Option Addr} {pl pc : Nat} {s t : Bool} {z1 z2 y1 y2 a : Option Addr} {m1 k1 m2 k2 n1 j1 n2 j2 cp : Nat} {rs : List RM} (h : SpE W6 b P Q (s, (z1, m1, k1), (z2, m2, k2)) a rs cp (t, (y1, n1, j1), (y2, n2, j2)) W) (hT : Tab W6) (hb : b < W6.heap.size) :
    SpkAt W6 b ⟨P, Q, m, oa, pr, pa, pl, pc, (s, (z1, m1, k1), (z2, m2, k2)), a, rs, cp, (t, (y1, n1, j1), (y2, n2, j2))⟩ (set3 W Q t (.slice y1 n1 j1) (.slice y2 n2 j2)) := by
 have hg := set3_grown W Q t (.slice y1 n1 j1) (.slice y2 n2 j2)
 have hB : Blank W Q := h.q
 refine ⟨?_, ?_, set3_block h.q _ _ _, h.poly.past (rat_noI hB) hg, h.num.set3 hB _ _ _⟩
 ·unfold set3
  exact ((h.r.setNew hT hb _ h.ge).setNew hT hb _ h.ge).setNew hT hb _ h.ge
 ·exact (hg.block P (Array.getElem?_eq_some_iff.1 h.p).1 (by simpa using h.ne)).trans h.p
theorem cells_of (w : World) (C : Array Value) (t : TypeId) : (w.alloc (.cells C t)).heap[w.heap.size]? = some (.cells C t (0, 0)) := heap_alloc_new w _
set_option maxRecDepth 100000 in
set_option maxHeartbeats 16000000 in
theorem speaks12 {w : World} (hT : Tab w) : Calls Tryz.prog 7 #[] w (GivesV (.bool true) w) := by
 have HT := Lib.hid hT
 have HN := Lib.hid (new_high 2 w (by omega) (by decide))
 clear hT
 go_enter Tryz.func7, Tryz.ntmps7
 go_wp2_with fail
 refine HN.out.mono ?_
 rintro e w1 ⟨rfl, hw1⟩
 have hal : Below w.heap.size w w1 := by rw [hw1]; exact (Below.refl _ _).alloc (Nat.le_refl _) _
 have hB1 : Bench w1 w.heap.size 2 false := by rw [hw1]; exact heap_alloc_new w _
 have HR1 : Hid (BR w.heap.size 2 false w1 w1) := Lib.hid (BR.refl hB1 (HT.out.kept hal))
 have HAL := Lib.hid hal
 have HO3 := Lib.hid (ofL 3 (by omega) (by omega) w1)
 clear hw1 hB1 hal HN
 go_wp2_with fail
 refine HO3.out.mono ?_
 rintro e w2 ⟨s, z1, m1, k1, z2, m2, k2, rfl, hb2, hv2⟩
 have HR2 := Lib.hid (HR1.out.kept hb2.out)
 have HO2 := Lib.hid (ofL 2 (by omega) (by omega) w2)
 clear hb2 HO3
 go_wp2_with fail
 refine HO2.out.mono ?_
 rintro e w3 ⟨t, y1, n1, j1, y2, n2, j2, rfl, hb3, hv3⟩
 have HV2 := Lib.hid (hv2.out.kept hb3.out)
 have HR3 := Lib.hid (HR2.out.kept hb3.out)
 have HO0 := Lib.hid (Of12_any (w := w3) (v := 0))
 clear hb3 hv2 HO2 HR2
 go_wp2_with fail
 refine HO0.out.mono ?_
 rintro e w4 ⟨a, d, rfl, hb4, hp4⟩
 have HR4 := Lib.hid (HR3.out.kept hb4.out)
 have HA := Lib.hid (spk_add1 HR4.out.bench HR4.out.tab (HV2.out.kept hb4.out) (hv3.out.kept hb4.out) hp4.out)
 clear hb4 hp4 HV2 hv3 HR3 HO0
 go_wp2_with fail
 refine HA.out.mono ?_
 rintro e w5 ⟨s5, b1, f1, h1, b2, f2, h2, a5, cp5, rs5, rfl, hr5, hp5, hl5, hc5, hn5⟩
 obtain ⟨n5, hn5'⟩ : ∃ n, rs5.length = n := ⟨_, rfl⟩
 have HNN := Lib.hid hn5'
 have hal := (Below.refl w5.heap.size w5).alloc (Nat.le_refl _) (.cells #[.bool s5, .slice b1 f1 h1, .slice b2 f2 h2, .slice a5 n5 cp5] 30)
 obtain ⟨W6, hW6⟩ : ∃ W6, W6 = w5.alloc (.cells #[.bool s5, .slice b1 f1 h1, .slice b2 f2 h2, .slice a5 n5 cp5] 30) := ⟨_, rfl⟩
 have hk2 := cells_of w5 #[.bool s5, .slice b1 f1 h1, .slice b2 f2 h2, .slice a5 n5 cp5] 30
 rw [← hW6] at hal hk2
 have HR6 := Lib.hid ((HR4.out.trans hr5.out).kept hal)
 have HP6 := Lib.hid (hp5.out.kept hal)
 have HK2 := Lib.hid hk2
 have HW6 := Lib.hid hW6
 have HR4S : Hid (w.heap.size < w5.heap.size) := Lib.hid (HR4.out.trans hr5.out).bench.lt
 rw [hn5']
 clear hW6 hal hk2 hr5 hp5 hl5 hc5 hn5 hn5' HA HR4
 go_wp2_with fail
 have HLT : Hid (w.heap.size < W6.heap.size) := Lib.hid HR6.out.bench.lt
 have HT6 := Lib.hid HR6.out.tab
 have HP6 := Lib.hid (And.intro HP6.out HR6.out.bench)
 have hI : Hid (Sp w.heap.size W6 none none (fun _ => True) W6.drew) := Lib.hid ⟨HR6.out.self.kept (below_drew W6), by simp, by simp, fun _ _ => trivial⟩
 have HK : Hid (∀ p W, BR w.heap.size 2 p W6 W → ((fun w' => w'.cell? ⟨w5.heap.size, 0, none⟩ = some (.bool s5) ∧ w'.cell? ⟨w5.heap.size, 1, none⟩ = some (.slice b1 f1 h1) ∧ w'.cell? ⟨w5.heap.size, 2, none⟩ = some (.slice b2 f2 h2) ∧ w'.cell? ⟨w5.heap.size, 3, none⟩ = some (.slice a5 n5 cp5)) W)) := Lib.hid fun p W h => by
  obtain ⟨x0, x1, x2, x3, _⟩ := cellsL4 (h.block HK2.out (by have := HR4S.out; omega))
  exact ⟨x0, x1, x2, x3⟩
 rw [← HW6.out]
 refine wp_region_ex (ι := SpkI) (fun i => [(13, .pointer (some ⟨w.heap.size, 0, none⟩)), (14, .pointer (some ⟨w.heap.size, 0, none⟩)), (15, .agg #[.bool s5, .slice b1 f1 h1, .slice b2 f2 h2, .slice a5 n5 cp5]), (16, .agg #[.bool i.m.1, .slice i.m.2.1.1 i.m.2.1.2.1 i.m.2.1.2.2, .slice i.m.2.2.1 i.m.2.2.2.1 i.m.2.2.2.2]), (17, .agg #[.bool false, .slice none 0 0, .slice none 0 0, .slice i.oa 1 1]), (18, .agg #[.bool i.p.1, .slice i.p.2.1.1 i.p.2.1.2.1 i.p.2.1.2.2, .slice i.p.2.2.1 i.p.2.2.2.1 i.p.2.2.2.2, .slice i.pa i.pl i.pc]), (19, .tuple #[.agg #[.bool i.q.1, .slice i.q.2.1.1 i.q.2.1.2.1 i.q.2.1.2.2, .slice i.q.2.2.1 i.q.2.2.2.1 i.q.2.2.2.2, .slice i.qa i.qr.length i.qc], .agg #[.bool i.k.1, .slice i.k.2.1.1 i.k.2.1.2.1 i.k.2.1.2.2, .slice i.k.2.2.1 i.k.2.2.2.1 i.k.2.2.2.2]]), (12, .tuple #[.agg #[.bool i.q.1, .slice i.q.2.1.1 i.q.2.1.2.1 i.q.2.1.2.2, .slice i.q.2.2.1 i.q.2.2.2.1 i.q.2.2.2.2, .slice i.qa i.qr.length i.qc], .agg #[.bool i.k.1, .slice i.k.2.1.1 i.k.2.1.2.1 i.k.2.1.2.2, .slice i.k.2.2.1 i.k.2.2.2.1 i.k.2.2.2.2]]), (20, .agg #[.bool i.q.1, .slice i.q.2.1.1 i.q.2.1.2.1 i.q.2.1.2.2, .slice i.q.2.2.1 i.q.2.2.2.1 i.q.2.2.2.2, .slice i.qa i.qr.length i.qc]), (21, .agg #[.bool i.k.1, .slice i.k.2.1.1 i.k.2.1.2.1 i.k.2.1.2.2, .slice i.k.2.2.1 i.k.2.2.2.1 i.k.2.2.2.2]), (3, .pointer (some ⟨i.P, 0, none⟩)), (4, .pointer (some ⟨i.Q, 0, none⟩))]) (SpkAt W6 w.heap.size) ?reg ?rest
 case rest =>
  rintro ⟨P, Q, ⟨ms, ⟨ma, ml, mc⟩, ⟨mb, mk, me⟩⟩, oa, ⟨ps, ⟨pa, pl, pc⟩, ⟨pb, pk, pe⟩⟩, a9, n9, cp9, ⟨qs, ⟨qa, ql, qc⟩, ⟨qb, qk, qe⟩⟩, a8, rs8, cp8, ⟨ks, ⟨ka, kl, kc⟩, ⟨kb, kk, ke⟩⟩⟩ w8 hS
  simp only [puts, Act.put, zA, zB, zC, zD, zE, zF]
  have hl : rs8.length = 2 := by have := hS.poly.ms.len; simpa using this
  obtain ⟨d, x', g, off, hd0, hx0, hqa, hok, hr⟩ := hS.poly.ms.get (k := 1) (by simp)
  simp at hx0
  subst hx0
  obtain ⟨v, s, y1, n1, j1, y2, n2, j2⟩ := d
  obtain ⟨hv, hq⟩ := hok
  dsimp only [RM.raw] at hv hq hqa
  subst hqa
  have e1 : w8.cell? ⟨g, off + 4 + 1, none⟩ = some (.bool s) := by have := hr 1 _ rfl; simpa using this
  have e2 : w8.cell? ⟨g, off + 4 + 2, none⟩ = some (.slice y1 n1 j1) := by have := hr 2 _ rfl; simpa using this
  have e3 : w8.cell? ⟨g, off + 4 + 3, none⟩ = some (.slice y2 n2 j2) := by have := hr 3 _ rfl; simpa using this
  obtain ⟨q0, q1, q2, q3, _⟩ := cellsL4 hS.bP
  have HT1 := Lib.hid (text_vq hq (by have := spk_s1; omega))
  rw [spk_t1] at HT1
  have HKK : Hid (∀ W', Below w8.heap.size w8 W' → (W'.cell? ⟨Q, 0, none⟩ = some (.bool ks) ∧ W'.cell? ⟨Q, 1, none⟩ = some (.slice ka kl kc) ∧ W'.cell? ⟨Q, 2, none⟩ = some (.slice kb kk ke)) ∧ Calls Tryz.prog 27 #[.agg #[.bool ks, .slice ka kl kc, .slice kb kk ke]] W' (GivesTx ⟨#[50]⟩ W')) := Lib.hid fun W' h => by
   obtain ⟨x0, x1, x2, _⟩ := cells3 (stayL hS.bQ h)
   have ht := text_vq (hS.num.kept h) (by have := spk_s1; omega)
   rw [spk_t2] at ht
   exact ⟨⟨x0, x1, x2⟩, ht⟩
  have HBB : Hid (Below w.heap.size w w8) := Lib.hid (hS.r.below (HR6.out.below HAL.out (Nat.le_refl _) HAL.out.size) (Nat.le_refl _) (by have := HR6.out.size; have := HAL.out.size; omega))
  rw [hl] at q3 ⊢
  dsimp only at q0 q1 q2 q3
  clear hl hd0 hv hq hr hS HK2 HW6 HR4S HLT HT6 HP6 HK HNN HR6 HAL HT HR1
  go_wp2_with fail
  refine HT1.out.mono ?_
  rintro e w9 ⟨rfl, hb9⟩
  obtain ⟨⟨m0, m1, m2⟩, hk⟩ := HKK.out _ hb9
  have HK2 := Lib.hid hk
  have HB9 := Lib.hid (HBB.out.trans (hb9.mono HBB.out.size))
  clear hk hb9 HKK HBB HT1 q0 q1 q2 q3 e1 e2 e3
  go_wp2_with fail
  refine HK2.out.mono ?_
  rintro e w10 ⟨rfl, hb10⟩
  have HE := Lib.hid (GivesV.mk' (v := .bool true) rfl (HB9.out.trans (hb10.mono HB9.out.size)))
  clear hb10 HK2 HB9 m0 m1 m2
  go_wp2_with fail
  go_ret
  exact HE.out
 case reg =>
  obtain ⟨wl, hw0⟩ : ∃ X, X = W6.drew := ⟨_, rfl⟩
  rw [← hw0] at hI
  refine wp_region_held_drew (S := (fun w' => w'.cell? ⟨w5.heap.size, 0, none⟩ = some (.bool s5) ∧ w'.cell? ⟨w5.heap.size, 1, none⟩ = some (.slice b1 f1 h1) ∧ w'.cell? ⟨w5.heap.size, 2, none⟩ = some (.slice b2 f2 h2) ∧ w'.cell? ⟨w5.heap.size, 3, none⟩ = some (.slice a5 n5 cp5))) (by kernel_rfl) ?_ (fun hHeld => ?_)
  rotate_left 1
  rw [← hw0] at hHeld ⊢; clear hw0
  rotate_left 1
  ·rw [← hw0]; exact HK.out _ _ hI.out.r
  refine tkV 0 hHeld ?_
  try simp only [Act.put, zA, zB, zC, zD, zE, zF]
  refine tkV 1 hHeld ?_
  try simp only [Act.put, zA, zB, zC, zD, zE, zF]
  refine tkV 2 hHeld ?_
  try simp only [Act.put, zA, zB, zC, zD, zE, zF]
  refine rdy [3, 10, 11] ?_
  refine AllReadyH.cons (by rfl) (fun K hK => ?_) ?_
  go_simp
  refine (sp_of hI.out HLT.out).mono ?_
  clear hI
  rintro e wl ⟨ms, ma, ml, mc, mb, mk, me, rfl, hI⟩
  refine hK.out _ _ ?_ (fun hHeld => ?_)
  ·exact HK.out _ _ hI.out.r
  clear hK K
  try simp only [Act.put, zA, zB, zC, zD, zE, zF]
  refine rdy [4, 10, 11] ?_
  refine AllReadyH.cons (by rfl) (fun K hK => ?_) ?_
  go_simp
  refine (sp_one hI.out HLT.out).mono ?_
  clear hI
  rintro e wl ⟨oa, od, rfl, hI⟩
  refine hK.out _ _ ?_ (fun hHeld => ?_)
  ·exact HK.out _ _ hI.out.r
  clear hK K
  try simp only [Act.put, zA, zB, zC, zD, zE, zF]
  refine rdy [5, 10, 11] ?_
  refine AllReadyH.cons (by rfl) (fun K hK => ?_) ?_
  go_simp
  refine (sp_add hI.out HLT.out HP6.out HNN.out).mono ?_
  clear hI
  rintro e wl ⟨ps, pa, pl, pc, pb, pk, pe, a9, cp9, rs9, rfl, hI⟩
  refine hK.out _ _ ?_ (fun hHeld => ?_)
  ·exact HK.out _ _ hI.out.r
  clear hK K
  try simp only [Act.put, zA, zB, zC, zD, zE, zF]
  refine rdy [6, 10, 11] ?_
  refine AllReadyH.cons (by rfl) (fun K hK => ?_) ?_
  go_simp
  refine (sp_norm hI.out HLT.out).mono ?_
  clear hI
  rintro e wl ⟨qs, qa, ql, qc, qb, qk, qe, a8, cp8, rs8, ks, ka, kl, kc, kb, kk, ke, rfl, hI⟩
  refine hK.out _ _ ?_ (fun hHeld => ?_)
  ·exact HK.out _ _ hI.out.r
  clear hK K
  try simp only [Act.put, zA, zB, zC, zD, zE, zF]
  refine tkV 7 hHeld ?_
  try simp only [Act.put, zA, zB, zC, zD, zE, zF]
  refine tkV 8 hHeld ?_
  try simp only [Act.put, zA, zB, zC, zD, zE, zF]
  refine tkV 9 hHeld ?_
  try simp only [Act.put, zA, zB, zC, zD, zE, zF]
  refine rdy [10, 11] ?_
  refine AllReadyH.cons (by rfl) (fun K hK => ?_) ?_
  go_simp
  replace hI := Lib.hid (hI.out.allocP HLT.out)
  obtain ⟨wz, hw⟩ : ∃ X, X = wl.alloc (.cells #[.bool false, .slice none 0 0, .slice none 0 0, .slice none 0 0] 30) := ⟨_, rfl⟩
  rw [← hw] at hI ⊢; clear hw; generalize wl.heap.size = P at hI ⊢
  obtain ⟨wl, hw⟩ : ∃ X, X = wz := ⟨_, rfl⟩; rw [← hw] at hI ⊢; clear hw
  refine hK.out _ _ ?_ (fun hHeld => ?_)
  ·exact HK.out _ _ hI.out.r
  clear hK K
  try simp only [Act.put, zA, zB, zC, zD, zE, zF]
  refine rdy [11] ?_
  refine AllReadyH.cons (by rfl) (fun K hK => ?_) AllReadyH.nil
  go_simp
  replace hI := Lib.hid (hI.out.allocQ HLT.out)
  obtain ⟨wz, hw⟩ : ∃ X, X = wl.alloc (.cells #[.bool false, .slice none 0 0, .slice none 0 0] 27) := ⟨_, rfl⟩
  rw [← hw] at hI ⊢; clear hw; generalize wl.heap.size = Q at hI ⊢
  obtain ⟨wl, hw⟩ : ∃ X, X = wz := ⟨_, rfl⟩; rw [← hw] at hI ⊢; clear hw
  refine hK.out _ _ ?_ (fun hHeld => ?_)
  ·exact HK.out _ _ hI.out.r
  clear hK K
  try simp only [Act.put, zA, zB, zC, zD, zE, zF]
  refine ?c4_1; rotate_left 1
  refine AllReadyH.cons (by rfl) (fun K hK => ?_) ?_
  go_simp
  replace hI := Lib.hid (hI.out.allocQ HLT.out)
  obtain ⟨wz, hw⟩ : ∃ X, X = wl.alloc (.cells #[.bool false, .slice none 0 0, .slice none 0 0] 27) := ⟨_, rfl⟩
  rw [← hw] at hI ⊢; clear hw; generalize wl.heap.size = Q at hI ⊢
  obtain ⟨wl, hw⟩ : ∃ X, X = wz := ⟨_, rfl⟩; rw [← hw] at hI ⊢; clear hw
  refine hK.out _ _ ?_ (fun hHeld => ?_)
  ·exact HK.out _ _ hI.out.r
  clear hK K
  try simp only [Act.put, zA, zB, zC, zD, zE, zF]
  refine rdy [10] ?_
  refine AllReadyH.cons (by rfl) (fun K hK => ?_) AllReadyH.nil
  go_simp
  replace hI := Lib.hid (hI.out.allocP HLT.out)
  obtain ⟨wz, hw⟩ : ∃ X, X = wl.alloc (.cells #[.bool false, .slice none 0 0, .slice none 0 0, .slice none 0 0] 30) := ⟨_, rfl⟩
  rw [← hw] at hI ⊢; clear hw; generalize wl.heap.size = P at hI ⊢
  obtain ⟨wl, hw⟩ : ∃ X, X = wz := ⟨_, rfl⟩; rw [← hw] at hI ⊢; clear hw
  refine hK.out _ _ ?_ (fun hHeld => ?_)
  ·exact HK.out _ _ hI.out.r
  clear hK K
  try simp only [Act.put, zA, zB, zC, zD, zE, zF]
  refine ?c4_2; rotate_left 1
  exact AllReadyH.nil
  refine AllReadyH.cons (by rfl) (fun K hK => ?_) ?_
  go_simp
  replace hI := Lib.hid (hI.out.allocP HLT.out)
  obtain ⟨wz, hw⟩ : ∃ X, X = wl.alloc (.cells #[.bool false, .slice none 0 0, .slice none 0 0, .slice none 0 0] 30) := ⟨_, rfl⟩
  rw [← hw] at hI ⊢; clear hw; generalize wl.heap.size = P at hI ⊢
  obtain ⟨wl, hw⟩ : ∃ X, X = wz := ⟨_, rfl⟩; rw [← hw] at hI ⊢; clear hw
  refine hK.out _ _ ?_ (fun hHeld => ?_)
  ·exact HK.out _ _ hI.out.r
  clear hK K
  try simp only [Act.put, zA, zB, zC, zD, zE, zF]
  refine rdy [6, 11] ?_
  refine AllReadyH.cons (by rfl) (fun K hK => ?_) ?_
  go_simp
  refine (sp_norm hI.out HLT.out).mono ?_
  clear hI
  rintro e wl ⟨qs, qa, ql, qc, qb, qk, qe, a8, cp8, rs8, ks, ka, kl, kc, kb, kk, ke, rfl, hI⟩
  refine hK.out _ _ ?_ (fun hHeld => ?_)
  ·exact HK.out _ _ hI.out.r
  clear hK K
  try simp only [Act.put, zA, zB, zC, zD, zE, zF]
  refine tkV 7 hHeld ?_
  try simp only [Act.put, zA, zB, zC, zD, zE, zF]
  refine tkV 8 hHeld ?_
  try simp only [Act.put, zA, zB, zC, zD, zE, zF]
  refine tkV 9 hHeld ?_
  try simp only [Act.put, zA, zB, zC, zD, zE, zF]
  refine rdy [11] ?_
  refine AllReadyH.cons (by rfl) (fun K hK => ?_) AllReadyH.nil
  go_simp
  replace hI := Lib.hid (hI.out.allocQ HLT.out)
  obtain ⟨wz, hw⟩ : ∃ X, X = wl.alloc (.cells #[.bool false, .slice none 0 0, .slice none 0 0] 27) := ⟨_, rfl⟩
  rw [← hw] at hI ⊢; clear hw; generalize wl.heap.size = Q at hI ⊢
  obtain ⟨wl, hw⟩ : ∃ X, X = wz := ⟨_, rfl⟩; rw [← hw] at hI ⊢; clear hw
  refine hK.out _ _ ?_ (fun hHeld => ?_)
  ·exact HK.out _ _ hI.out.r
  clear hK K
  try simp only [Act.put, zA, zB, zC, zD, zE, zF]
  refine ?c4_3; rotate_left 1
  refine AllReadyH.cons (by rfl) (fun K hK => ?_) ?_
  go_simp
  replace hI := Lib.hid (hI.out.allocQ HLT.out)
  obtain ⟨wz, hw⟩ : ∃ X, X = wl.alloc (.cells #[.bool false, .slice none 0 0, .slice none 0 0] 27) := ⟨_, rfl⟩
  rw [← hw] at hI ⊢; clear hw; generalize wl.heap.size = Q at hI ⊢
  obtain ⟨wl, hw⟩ : ∃ X, X = wz := ⟨_, rfl⟩; rw [← hw] at hI ⊢; clear hw
  refine hK.out _ _ ?_ (fun hHeld => ?_)
  ·exact HK.out _ _ hI.out.r
  clear hK K
  try simp only [Act.put, zA, zB, zC, zD, zE, zF]
  refine ?c3_1; rotate_left 1
  exact AllReadyH.nil
  refine AllReadyH.cons (by rfl) (fun K hK => ?_) ?_
  go_simp
  replace hI := Lib.hid (hI.out.allocQ HLT.out)
  obtain ⟨wz, hw⟩ : ∃ X, X = wl.alloc (.cells #[.bool false, .slice none 0 0, .slice none 0 0] 27) := ⟨_, rfl⟩
  rw [← hw] at hI ⊢; clear hw; generalize wl.heap.size = Q at hI ⊢
  obtain ⟨wl, hw⟩ : ∃ X, X = wz := ⟨_, rfl⟩; rw [← hw] at hI ⊢; clear hw
  refine hK.out _ _ ?_ (fun hHeld => ?_)
  ·exact HK.out _ _ hI.out.r
  clear hK K
  try simp only [Act.put, zA, zB, zC, zD, zE, zF]
  refine rdy [6, 10] ?_
  refine AllReadyH.cons (by rfl) (fun K hK => ?_) ?_
  go_simp
  refine (sp_norm hI.out HLT.out).mono ?_
  clear hI
  rintro e wl ⟨qs, qa, ql, qc, qb, qk, qe, a8, cp8, rs8, ks, ka, kl, kc, kb, kk, ke, rfl, hI⟩
  refine hK.out _ _ ?_ (fun hHeld => ?_)
  ·exact HK.out _ _ hI.out.r
  clear hK K
  try simp only [Act.put, zA, zB, zC, zD, zE, zF]
  refine tkV 7 hHeld ?_
  try simp only [Act.put, zA, zB, zC, zD, zE, zF]
  refine tkV 8 hHeld ?_
  try simp only [Act.put, zA, zB, zC, zD, zE, zF]
  refine tkV 9 hHeld ?_
  try simp only [Act.put, zA, zB, zC, zD, zE, zF]
  refine rdy [10] ?_
  refine AllReadyH.cons (by rfl) (fun K hK => ?_) AllReadyH.nil
  go_simp
  replace hI := Lib.hid (hI.out.allocP HLT.out)
  obtain ⟨wz, hw⟩ : ∃ X, X = wl.alloc (.cells #[.bool false, .slice none 0 0, .slice none 0 0, .slice none 0 0] 30) := ⟨_, rfl⟩
  rw [← hw] at hI ⊢; clear hw; generalize wl.heap.size = P at hI ⊢
  obtain ⟨wl, hw⟩ : ∃ X, X = wz := ⟨_, rfl⟩; rw [← hw] at hI ⊢; clear hw
  refine hK.out _ _ ?_ (fun hHeld => ?_)
  ·exact HK.out _ _ hI.out.r
  clear hK K
  try simp only [Act.put, zA, zB, zC, zD, zE, zF]
  refine ?c4_4; rotate_left 1
  refine AllReadyH.cons (by rfl) (fun K hK => ?_) ?_
  go_simp
  replace hI := Lib.hid (hI.out.allocP HLT.out)
  obtain ⟨wz, hw⟩ : ∃ X, X = wl.alloc (.cells #[.bool false, .slice none 0 0, .slice none 0 0, .slice none 0 0] 30) := ⟨_, rfl⟩
  rw [← hw] at hI ⊢; clear hw; generalize wl.heap.size = P at hI ⊢
  obtain ⟨wl, hw⟩ : ∃ X, X = wz := ⟨_, rfl⟩; rw [← hw] at hI ⊢; clear hw
  refine hK.out _ _ ?_ (fun hHeld => ?_)
  ·exact HK.out _ _ hI.out.r
  clear hK K
  try simp only [Act.put, zA, zB, zC, zD, zE, zF]
  refine ?c3_2; rotate_left 1
  exact AllReadyH.nil
  exact AllReadyH.nil
  refine AllReadyH.cons (by rfl) (fun K hK => ?_) ?_
  go_simp
  replace hI := Lib.hid (hI.out.allocP HLT.out)
  obtain ⟨wz, hw⟩ : ∃ X, X = wl.alloc (.cells #[.bool false, .slice none 0 0, .slice none 0 0, .slice none 0 0] 30) := ⟨_, rfl⟩
  rw [← hw] at hI ⊢; clear hw; generalize wl.heap.size = P at hI ⊢
  obtain ⟨wl, hw⟩ : ∃ X, X = wz := ⟨_, rfl⟩; rw [← hw] at hI ⊢; clear hw
  refine hK.out _ _ ?_ (fun hHeld => ?_)
  ·exact HK.out _ _ hI.out.r
  clear hK K
  try simp only [Act.put, zA, zB, zC, zD, zE, zF]
  refine rdy [5, 11] ?_
  refine AllReadyH.cons (by rfl) (fun K hK => ?_) ?_
  go_simp
  refine (sp_add hI.out HLT.out HP6.out HNN.out).mono ?_
  clear hI
  rintro e wl ⟨ps, pa, pl, pc, pb, pk, pe, a9, cp9, rs9, rfl, hI⟩
  refine hK.out _ _ ?_ (fun hHeld => ?_)
  ·exact HK.out _ _ hI.out.r
  clear hK K
  try simp only [Act.put, zA, zB, zC, zD, zE, zF]
  refine rdy [6, 11] ?_
  refine AllReadyH.cons (by rfl) (fun K hK => ?_) ?_
  go_simp
  refine (sp_norm hI.out HLT.out).mono ?_
  clear hI
  rintro e wl ⟨qs, qa, ql, qc, qb, qk, qe, a8, cp8, rs8, ks, ka, kl, kc, kb, kk, ke, rfl, hI⟩
  refine hK.out _ _ ?_ (fun hHeld => ?_)
  ·exact HK.out _ _ hI.out.r
  clear hK K
  try simp only [Act.put, zA, zB, zC, zD, zE, zF]
  refine tkV 7 hHeld ?_
  try simp only [Act.put, zA, zB, zC, zD, zE, zF]
  refine tkV 8 hHeld ?_
  try simp only [Act.put, zA, zB, zC, zD, zE, zF]
  refine tkV 9 hHeld ?_
  try simp only [Act.put, zA, zB, zC, zD, zE, zF]
  refine rdy [11] ?_
  refine AllReadyH.cons (by rfl) (fun K hK => ?_) AllReadyH.nil
  go_simp
  replace hI := Lib.hid (hI.out.allocQ HLT.out)
  obtain ⟨wz, hw⟩ : ∃ X, X = wl.alloc (.cells #[.bool false, .slice none 0 0, .slice none 0 0] 27) := ⟨_, rfl⟩
  rw [← hw] at hI ⊢; clear hw; generalize wl.heap.size = Q at hI ⊢
  obtain ⟨wl, hw⟩ : ∃ X, X = wz := ⟨_, rfl⟩; rw [← hw] at hI ⊢; clear hw
  refine hK.out _ _ ?_ (fun hHeld => ?_)
  ·exact HK.out _ _ hI.out.r
  clear hK K
  try simp only [Act.put, zA, zB, zC, zD, zE, zF]
  refine ?c4_5; rotate_left 1
  refine AllReadyH.cons (by rfl) (fun K hK => ?_) ?_
  go_simp
  replace hI := Lib.hid (hI.out.allocQ HLT.out)
  obtain ⟨wz, hw⟩ : ∃ X, X = wl.alloc (.cells #[.bool false, .slice none 0 0, .slice none 0 0] 27) := ⟨_, rfl⟩
  rw [← hw] at hI ⊢; clear hw; generalize wl.heap.size = Q at hI ⊢
  obtain ⟨wl, hw⟩ : ∃ X, X = wz := ⟨_, rfl⟩; rw [← hw] at hI ⊢; clear hw
  refine hK.out _ _ ?_ (fun hHeld => ?_)
  ·exact HK.out _ _ hI.out.r
  clear hK K
  try simp only [Act.put, zA, zB, zC, zD, zE, zF]
  refine ?c3_3; rotate_left 1
  exact AllReadyH.nil
  refine AllReadyH.cons (by rfl) (fun K hK => ?_) ?_
  go_simp
  replace hI := Lib.hid (hI.out.allocQ HLT.out)
  obtain ⟨wz, hw⟩ : ∃ X, X = wl.alloc (.cells #[.bool false, .slice none 0 0, .slice none 0 0] 27) := ⟨_, rfl⟩
  rw [← hw] at hI ⊢; clear hw; generalize wl.heap.size = Q at hI ⊢
  obtain ⟨wl, hw⟩ : ∃ X, X = wz := ⟨_, rfl⟩; rw [← hw] at hI ⊢; clear hw
  refine hK.out _ _ ?_ (fun hHeld => ?_)
  ·exact HK.out _ _ hI.out.r
  clear hK K
  try simp only [Act.put, zA, zB, zC, zD, zE, zF]
  refine ?c2_1; rotate_left 1
  exact AllReadyH.nil
  refine AllReadyH.cons (by rfl) (fun K hK => ?_) ?_
  go_simp
  replace hI := Lib.hid (hI.out.allocQ HLT.out)
  obtain ⟨wz, hw⟩ : ∃ X, X = wl.alloc (.cells #[.bool false, .slice none 0 0, .slice none 0 0] 27) := ⟨_, rfl⟩
  rw [← hw] at hI ⊢; clear hw; generalize wl.heap.size = Q at hI ⊢
  obtain ⟨wl, hw⟩ : ∃ X, X = wz := ⟨_, rfl⟩; rw [← hw] at hI ⊢; clear hw
  refine hK.out _ _ ?_ (fun hHeld => ?_)
  ·exact HK.out _ _ hI.out.r
  clear hK K
  try simp only [Act.put, zA, zB, zC, zD, zE, zF]
  refine rdy [5, 10] ?_
  refine AllReadyH.cons (by rfl) (fun K hK => ?_) ?_
  go_simp
  refine (sp_add hI.out HLT.out HP6.out HNN.out).mono ?_
  clear hI
  rintro e wl ⟨ps, pa, pl, pc, pb, pk, pe, a9, cp9, rs9, rfl, hI⟩
  refine hK.out _ _ ?_ (fun hHeld => ?_)
  ·exact HK.out _ _ hI.out.r
  clear hK K
  try simp only [Act.put, zA, zB, zC, zD, zE, zF]
  refine rdy [6, 10] ?_
  refine AllReadyH.cons (by rfl) (fun K hK => ?_) ?_
  go_simp
  refine (sp_norm hI.out HLT.out).mono ?_
  clear hI
  rintro e wl ⟨qs, qa, ql, qc, qb, qk, qe, a8, cp8, rs8, ks, ka, kl, kc, kb, kk, ke, rfl, hI⟩
  refine hK.out _ _ ?_ (fun hHeld => ?_)
  ·exact HK.out _ _ hI.out.r
  clear hK K
  try simp only [Act.put, zA, zB, zC, zD, zE, zF]
  refine tkV 7 hHeld ?_
  try simp only [Act.put, zA, zB, zC, zD, zE, zF]
  refine tkV 8 hHeld ?_
  try simp only [Act.put, zA, zB, zC, zD, zE, zF]
  refine tkV 9 hHeld ?_
  try simp only [Act.put, zA, zB, zC, zD, zE, zF]
  refine rdy [10] ?_
  refine AllReadyH.cons (by rfl) (fun K hK => ?_) AllReadyH.nil
  go_simp
  replace hI := Lib.hid (hI.out.allocP HLT.out)
  obtain ⟨wz, hw⟩ : ∃ X, X = wl.alloc (.cells #[.bool false, .slice none 0 0, .slice none 0 0, .slice none 0 0] 30) := ⟨_, rfl⟩
  rw [← hw] at hI ⊢; clear hw; generalize wl.heap.size = P at hI ⊢
  obtain ⟨wl, hw⟩ : ∃ X, X = wz := ⟨_, rfl⟩; rw [← hw] at hI ⊢; clear hw
  refine hK.out _ _ ?_ (fun hHeld => ?_)
  ·exact HK.out _ _ hI.out.r
  clear hK K
  try simp only [Act.put, zA, zB, zC, zD, zE, zF]
  refine ?c4_6; rotate_left 1
  refine AllReadyH.cons (by rfl) (fun K hK => ?_) ?_
  go_simp
  replace hI := Lib.hid (hI.out.allocP HLT.out)
  obtain ⟨wz, hw⟩ : ∃ X, X = wl.alloc (.cells #[.bool false, .slice none 0 0, .slice none 0 0, .slice none 0 0] 30) := ⟨_, rfl⟩
  rw [← hw] at hI ⊢; clear hw; generalize wl.heap.size = P at hI ⊢
  obtain ⟨wl, hw⟩ : ∃ X, X = wz := ⟨_, rfl⟩; rw [← hw] at hI ⊢; clear hw
  refine hK.out _ _ ?_ (fun hHeld => ?_)
  ·exact HK.out _ _ hI.out.r
  clear hK K
  try simp only [Act.put, zA, zB, zC, zD, zE, zF]
  refine ?c3_4; rotate_left 1
  exact AllReadyH.nil
  refine AllReadyH.cons (by rfl) (fun K hK => ?_) ?_
  go_simp
  replace hI := Lib.hid (hI.out.allocP HLT.out)
  obtain ⟨wz, hw⟩ : ∃ X, X = wl.alloc (.cells #[.bool false, .slice none 0 0, .slice none 0 0, .slice none 0 0] 30) := ⟨_, rfl⟩
  rw [← hw] at hI ⊢; clear hw; generalize wl.heap.size = P at hI ⊢
  obtain ⟨wl, hw⟩ : ∃ X, X = wz := ⟨_, rfl⟩; rw [← hw] at hI ⊢; clear hw
  refine hK.out _ _ ?_ (fun hHeld => ?_)
  ·exact HK.out _ _ hI.out.r
  clear hK K
  try simp only [Act.put, zA, zB, zC, zD, zE, zF]
  refine ?c2_2; rotate_left 1
  exact AllReadyH.nil
  exact AllReadyH.nil
  refine AllReadyH.cons (by rfl) (fun K hK => ?_) ?_
  go_simp
  replace hI := Lib.hid (hI.out.allocP HLT.out)
  obtain ⟨wz, hw⟩ : ∃ X, X = wl.alloc (.cells #[.bool false, .slice none 0 0, .slice none 0 0, .slice none 0 0] 30) := ⟨_, rfl⟩
  rw [← hw] at hI ⊢; clear hw; generalize wl.heap.size = P at hI ⊢
  obtain ⟨wl, hw⟩ : ∃ X, X = wz := ⟨_, rfl⟩; rw [← hw] at hI ⊢; clear hw
  refine hK.out _ _ ?_ (fun hHeld => ?_)
  ·exact HK.out _ _ hI.out.r
  clear hK K
  try simp only [Act.put, zA, zB, zC, zD, zE, zF]
  refine rdy [4, 11] ?_
  refine AllReadyH.cons (by rfl) (fun K hK => ?_) ?_
  go_simp
  refine (sp_one hI.out HLT.out).mono ?_
  clear hI
  rintro e wl ⟨oa, od, rfl, hI⟩
  refine hK.out _ _ ?_ (fun hHeld => ?_)
  ·exact HK.out _ _ hI.out.r
  clear hK K
  try simp only [Act.put, zA, zB, zC, zD, zE, zF]
  refine rdy [5, 11] ?_
  refine AllReadyH.cons (by rfl) (fun K hK => ?_) ?_
  go_simp
  refine (sp_add hI.out HLT.out HP6.out HNN.out).mono ?_
  clear hI
  rintro e wl ⟨ps, pa, pl, pc, pb, pk, pe, a9, cp9, rs9, rfl, hI⟩
  refine hK.out _ _ ?_ (fun hHeld => ?_)
  ·exact HK.out _ _ hI.out.r
  clear hK K
  try simp only [Act.put, zA, zB, zC, zD, zE, zF]
  refine rdy [6, 11] ?_
  refine AllReadyH.cons (by rfl) (fun K hK => ?_) ?_
  go_simp
  refine (sp_norm hI.out HLT.out).mono ?_
  clear hI
  rintro e wl ⟨qs, qa, ql, qc, qb, qk, qe, a8, cp8, rs8, ks, ka, kl, kc, kb, kk, ke, rfl, hI⟩
  refine hK.out _ _ ?_ (fun hHeld => ?_)
  ·exact HK.out _ _ hI.out.r
  clear hK K
  try simp only [Act.put, zA, zB, zC, zD, zE, zF]
  refine tkV 7 hHeld ?_
  try simp only [Act.put, zA, zB, zC, zD, zE, zF]
  refine tkV 8 hHeld ?_
  try simp only [Act.put, zA, zB, zC, zD, zE, zF]
  refine tkV 9 hHeld ?_
  try simp only [Act.put, zA, zB, zC, zD, zE, zF]
  refine rdy [11] ?_
  refine AllReadyH.cons (by rfl) (fun K hK => ?_) AllReadyH.nil
  go_simp
  replace hI := Lib.hid (hI.out.allocQ HLT.out)
  obtain ⟨wz, hw⟩ : ∃ X, X = wl.alloc (.cells #[.bool false, .slice none 0 0, .slice none 0 0] 27) := ⟨_, rfl⟩
  rw [← hw] at hI ⊢; clear hw; generalize wl.heap.size = Q at hI ⊢
  obtain ⟨wl, hw⟩ : ∃ X, X = wz := ⟨_, rfl⟩; rw [← hw] at hI ⊢; clear hw
  refine hK.out _ _ ?_ (fun hHeld => ?_)
  ·exact HK.out _ _ hI.out.r
  clear hK K
  try simp only [Act.put, zA, zB, zC, zD, zE, zF]
  refine ?c4_7; rotate_left 1
  refine AllReadyH.cons (by rfl) (fun K hK => ?_) ?_
  go_simp
  replace hI := Lib.hid (hI.out.allocQ HLT.out)
  obtain ⟨wz, hw⟩ : ∃ X, X = wl.alloc (.cells #[.bool false, .slice none 0 0, .slice none 0 0] 27) := ⟨_, rfl⟩
  rw [← hw] at hI ⊢; clear hw; generalize wl.heap.size = Q at hI ⊢
  obtain ⟨wl, hw⟩ : ∃ X, X = wz := ⟨_, rfl⟩; rw [← hw] at hI ⊢; clear hw
  refine hK.out _ _ ?_ (fun hHeld => ?_)
  ·exact HK.out _ _ hI.out.r
  clear hK K
  try simp only [Act.put, zA, zB, zC, zD, zE, zF]
  refine ?c3_5; rotate_left 1
  exact AllReadyH.nil
  refine AllReadyH.cons (by rfl) (fun K hK => ?_) ?_
  go_simp
  replace hI := Lib.hid (hI.out.allocQ HLT.out)
  obtain ⟨wz, hw⟩ : ∃ X, X = wl.alloc (.cells #[.bool false, .slice none 0 0, .slice none 0 0] 27) := ⟨_, rfl⟩
  rw [← hw] at hI ⊢; clear hw; generalize wl.heap.size = Q at hI ⊢
  obtain ⟨wl, hw⟩ : ∃ X, X = wz := ⟨_, rfl⟩; rw [← hw] at hI ⊢; clear hw
  refine hK.out _ _ ?_ (fun hHeld => ?_)
  ·exact HK.out _ _ hI.out.r
  clear hK K
  try simp only [Act.put, zA, zB, zC, zD, zE, zF]
  refine ?c2_3; rotate_left 1
  exact AllReadyH.nil
  refine AllReadyH.cons (by rfl) (fun K hK => ?_) ?_
  go_simp
  replace hI := Lib.hid (hI.out.allocQ HLT.out)
  obtain ⟨wz, hw⟩ : ∃ X, X = wl.alloc (.cells #[.bool false, .slice none 0 0, .slice none 0 0] 27) := ⟨_, rfl⟩
  rw [← hw] at hI ⊢; clear hw; generalize wl.heap.size = Q at hI ⊢
  obtain ⟨wl, hw⟩ : ∃ X, X = wz := ⟨_, rfl⟩; rw [← hw] at hI ⊢; clear hw
  refine hK.out _ _ ?_ (fun hHeld => ?_)
  ·exact HK.out _ _ hI.out.r
  clear hK K
  try simp only [Act.put, zA, zB, zC, zD, zE, zF]
  refine ?c1_1; rotate_left 1
  exact AllReadyH.nil
  refine AllReadyH.cons (by rfl) (fun K hK => ?_) ?_
  go_simp
  replace hI := Lib.hid (hI.out.allocQ HLT.out)
  obtain ⟨wz, hw⟩ : ∃ X, X = wl.alloc (.cells #[.bool false, .slice none 0 0, .slice none 0 0] 27) := ⟨_, rfl⟩
  rw [← hw] at hI ⊢; clear hw; generalize wl.heap.size = Q at hI ⊢
  obtain ⟨wl, hw⟩ : ∃ X, X = wz := ⟨_, rfl⟩; rw [← hw] at hI ⊢; clear hw
  refine hK.out _ _ ?_ (fun hHeld => ?_)
  ·exact HK.out _ _ hI.out.r
  clear hK K
  try simp only [Act.put, zA, zB, zC, zD, zE, zF]
  refine rdy [4, 10] ?_
  refine AllReadyH.cons (by rfl) (fun K hK => ?_) ?_
  go_simp
  refine (sp_one hI.out HLT.out).mono ?_
  clear hI
  rintro e wl ⟨oa, od, rfl, hI⟩
  refine hK.out _ _ ?_ (fun hHeld => ?_)
  ·exact HK.out _ _ hI.out.r
  clear hK K
  try simp only [Act.put, zA, zB, zC, zD, zE, zF]
  refine rdy [5, 10] ?_
  refine AllReadyH.cons (by rfl) (fun K hK => ?_) ?_
  go_simp
  refine (sp_add hI.out HLT.out HP6.out HNN.out).mono ?_
  clear hI
  rintro e wl ⟨ps, pa, pl, pc, pb, pk, pe, a9, cp9, rs9, rfl, hI⟩
  refine hK.out _ _ ?_ (fun hHeld => ?_)
  ·exact HK.out _ _ hI.out.r
  clear hK K
  try simp only [Act.put, zA, zB, zC, zD, zE, zF]
  refine rdy [6, 10] ?_
  refine AllReadyH.cons (by rfl) (fun K hK => ?_) ?_
  go_simp
  refine (sp_norm hI.out HLT.out).mono ?_
  clear hI
  rintro e wl ⟨qs, qa, ql, qc, qb, qk, qe, a8, cp8, rs8, ks, ka, kl, kc, kb, kk, ke, rfl, hI⟩
  refine hK.out _ _ ?_ (fun hHeld => ?_)
  ·exact HK.out _ _ hI.out.r
  clear hK K
  try simp only [Act.put, zA, zB, zC, zD, zE, zF]
  refine tkV 7 hHeld ?_
  try simp only [Act.put, zA, zB, zC, zD, zE, zF]
  refine tkV 8 hHeld ?_
  try simp only [Act.put, zA, zB, zC, zD, zE, zF]
  refine tkV 9 hHeld ?_
  try simp only [Act.put, zA, zB, zC, zD, zE, zF]
  refine rdy [10] ?_
  refine AllReadyH.cons (by rfl) (fun K hK => ?_) AllReadyH.nil
  go_simp
  replace hI := Lib.hid (hI.out.allocP HLT.out)
  obtain ⟨wz, hw⟩ : ∃ X, X = wl.alloc (.cells #[.bool false, .slice none 0 0, .slice none 0 0, .slice none 0 0] 30) := ⟨_, rfl⟩
  rw [← hw] at hI ⊢; clear hw; generalize wl.heap.size = P at hI ⊢
  obtain ⟨wl, hw⟩ : ∃ X, X = wz := ⟨_, rfl⟩; rw [← hw] at hI ⊢; clear hw
  refine hK.out _ _ ?_ (fun hHeld => ?_)
  ·exact HK.out _ _ hI.out.r
  clear hK K
  try simp only [Act.put, zA, zB, zC, zD, zE, zF]
  refine ?c4_8; rotate_left 1
  refine AllReadyH.cons (by rfl) (fun K hK => ?_) ?_
  go_simp
  replace hI := Lib.hid (hI.out.allocP HLT.out)
  obtain ⟨wz, hw⟩ : ∃ X, X = wl.alloc (.cells #[.bool false, .slice none 0 0, .slice none 0 0, .slice none 0 0] 30) := ⟨_, rfl⟩
  rw [← hw] at hI ⊢; clear hw; generalize wl.heap.size = P at hI ⊢
  obtain ⟨wl, hw⟩ : ∃ X, X = wz := ⟨_, rfl⟩; rw [← hw] at hI ⊢; clear hw
  refine hK.out _ _ ?_ (fun hHeld => ?_)
  ·exact HK.out _ _ hI.out.r
  clear hK K
  try simp only [Act.put, zA, zB, zC, zD, zE, zF]
  refine ?c3_6; rotate_left 1
  exact AllReadyH.nil
  refine AllReadyH.cons (by rfl) (fun K hK => ?_) ?_
  go_simp
  replace hI := Lib.hid (hI.out.allocP HLT.out)
  obtain ⟨wz, hw⟩ : ∃ X, X = wl.alloc (.cells #[.bool false, .slice none 0 0, .slice none 0 0, .slice none 0 0] 30) := ⟨_, rfl⟩
  rw [← hw] at hI ⊢; clear hw; generalize wl.heap.size = P at hI ⊢
  obtain ⟨wl, hw⟩ : ∃ X, X = wz := ⟨_, rfl⟩; rw [← hw] at hI ⊢; clear hw
  refine hK.out _ _ ?_ (fun hHeld => ?_)
  ·exact HK.out _ _ hI.out.r
  clear hK K
  try simp only [Act.put, zA, zB, zC, zD, zE, zF]
  refine ?c2_4; rotate_left 1
  exact AllReadyH.nil
  refine AllReadyH.cons (by rfl) (fun K hK => ?_) ?_
  go_simp
  replace hI := Lib.hid (hI.out.allocP HLT.out)
  obtain ⟨wz, hw⟩ : ∃ X, X = wl.alloc (.cells #[.bool false, .slice none 0 0, .slice none 0 0, .slice none 0 0] 30) := ⟨_, rfl⟩
  rw [← hw] at hI ⊢; clear hw; generalize wl.heap.size = P at hI ⊢
  obtain ⟨wl, hw⟩ : ∃ X, X = wz := ⟨_, rfl⟩; rw [← hw] at hI ⊢; clear hw
  refine hK.out _ _ ?_ (fun hHeld => ?_)
  ·exact HK.out _ _ hI.out.r
  clear hK K
  try simp only [Act.put, zA, zB, zC, zD, zE, zF]
  refine ?c1_2; rotate_left 1
  exact AllReadyH.nil
  exact AllReadyH.nil
  refine AllReadyH.cons (by rfl) (fun K hK => ?_) ?_
  go_simp
  replace hI := Lib.hid (hI.out.allocP HLT.out)
  obtain ⟨wz, hw⟩ : ∃ X, X = wl.alloc (.cells #[.bool false, .slice none 0 0, .slice none 0 0, .slice none 0 0] 30) := ⟨_, rfl⟩
  rw [← hw] at hI ⊢; clear hw; generalize wl.heap.size = P at hI ⊢
  obtain ⟨wl, hw⟩ : ∃ X, X = wz := ⟨_, rfl⟩; rw [← hw] at hI ⊢; clear hw
  refine hK.out _ _ ?_ (fun hHeld => ?_)
  ·exact HK.out _ _ hI.out.r
  clear hK K
  try simp only [Act.put, zA, zB, zC, zD, zE, zF]
  refine rdy [3, 11] ?_
  refine AllReadyH.cons (by rfl) (fun K hK => ?_) ?_
  go_simp
  refine (sp_of hI.out HLT.out).mono ?_
  clear hI
  rintro e wl ⟨ms, ma, ml, mc, mb, mk, me, rfl, hI⟩
  refine hK.out _ _ ?_ (fun hHeld => ?_)
  ·exact HK.out _ _ hI.out.r
  clear hK K
  try simp only [Act.put, zA, zB, zC, zD, zE, zF]
  refine rdy [4, 11] ?_
  refine AllReadyH.cons (by rfl) (fun K hK => ?_) ?_
  go_simp
  refine (sp_one hI.out HLT.out).mono ?_
  clear hI
  rintro e wl ⟨oa, od, rfl, hI⟩
  refine hK.out _ _ ?_ (fun hHeld => ?_)
  ·exact HK.out _ _ hI.out.r
  clear hK K
  try simp only [Act.put, zA, zB, zC, zD, zE, zF]
  refine rdy [5, 11] ?_
  refine AllReadyH.cons (by rfl) (fun K hK => ?_) ?_
  go_simp
  refine (sp_add hI.out HLT.out HP6.out HNN.out).mono ?_
  clear hI
  rintro e wl ⟨ps, pa, pl, pc, pb, pk, pe, a9, cp9, rs9, rfl, hI⟩
  refine hK.out _ _ ?_ (fun hHeld => ?_)
  ·exact HK.out _ _ hI.out.r
  clear hK K
  try simp only [Act.put, zA, zB, zC, zD, zE, zF]
  refine rdy [6, 11] ?_
  refine AllReadyH.cons (by rfl) (fun K hK => ?_) ?_
  go_simp
  refine (sp_norm hI.out HLT.out).mono ?_
  clear hI
  rintro e wl ⟨qs, qa, ql, qc, qb, qk, qe, a8, cp8, rs8, ks, ka, kl, kc, kb, kk, ke, rfl, hI⟩
  refine hK.out _ _ ?_ (fun hHeld => ?_)
  ·exact HK.out _ _ hI.out.r
  clear hK K
  try simp only [Act.put, zA, zB, zC, zD, zE, zF]
  refine tkV 7 hHeld ?_
  try simp only [Act.put, zA, zB, zC, zD, zE, zF]
  refine tkV 8 hHeld ?_
  try simp only [Act.put, zA, zB, zC, zD, zE, zF]
  refine tkV 9 hHeld ?_
  try simp only [Act.put, zA, zB, zC, zD, zE, zF]
  refine rdy [11] ?_
  refine AllReadyH.cons (by rfl) (fun K hK => ?_) AllReadyH.nil
  go_simp
  replace hI := Lib.hid (hI.out.allocQ HLT.out)
  obtain ⟨wz, hw⟩ : ∃ X, X = wl.alloc (.cells #[.bool false, .slice none 0 0, .slice none 0 0] 27) := ⟨_, rfl⟩
  rw [← hw] at hI ⊢; clear hw; generalize wl.heap.size = Q at hI ⊢
  obtain ⟨wl, hw⟩ : ∃ X, X = wz := ⟨_, rfl⟩; rw [← hw] at hI ⊢; clear hw
  refine hK.out _ _ ?_ (fun hHeld => ?_)
  ·exact HK.out _ _ hI.out.r
  clear hK K
  try simp only [Act.put, zA, zB, zC, zD, zE, zF]
  refine ?c4_9; rotate_left 1
  refine AllReadyH.cons (by rfl) (fun K hK => ?_) ?_
  go_simp
  replace hI := Lib.hid (hI.out.allocQ HLT.out)
  obtain ⟨wz, hw⟩ : ∃ X, X = wl.alloc (.cells #[.bool false, .slice none 0 0, .slice none 0 0] 27) := ⟨_, rfl⟩
  rw [← hw] at hI ⊢; clear hw; generalize wl.heap.size = Q at hI ⊢
  obtain ⟨wl, hw⟩ : ∃ X, X = wz := ⟨_, rfl⟩; rw [← hw] at hI ⊢; clear hw
  refine hK.out _ _ ?_ (fun hHeld => ?_)
  ·exact HK.out _ _ hI.out.r
  clear hK K
  try simp only [Act.put, zA, zB, zC, zD, zE, zF]
  refine ?c3_7; rotate_left 1
  exact AllReadyH.nil
  refine AllReadyH.cons (by rfl) (fun K hK => ?_) ?_
  go_simp
  replace hI := Lib.hid (hI.out.allocQ HLT.out)
  obtain ⟨wz, hw⟩ : ∃ X, X = wl.alloc (.cells #[.bool false, .slice none 0 0, .slice none 0 0] 27) := ⟨_, rfl⟩
  rw [← hw] at hI ⊢; clear hw; generalize wl.heap.size = Q at hI ⊢
  obtain ⟨wl, hw⟩ : ∃ X, X = wz := ⟨_, rfl⟩; rw [← hw] at hI ⊢; clear hw
  refine hK.out _ _ ?_ (fun hHeld => ?_)
  ·exact HK.out _ _ hI.out.r
  clear hK K
  try simp only [Act.put, zA, zB, zC, zD, zE, zF]
  refine ?c2_5; rotate_left 1
  exact AllReadyH.nil
  refine AllReadyH.cons (by rfl) (fun K hK => ?_) ?_
  go_simp
  replace hI := Lib.hid (hI.out.allocQ HLT.out)
  obtain ⟨wz, hw⟩ : ∃ X, X = wl.alloc (.cells #[.bool false, .slice none 0 0, .slice none 0 0] 27) := ⟨_, rfl⟩
  rw [← hw] at hI ⊢; clear hw; generalize wl.heap.size = Q at hI ⊢
  obtain ⟨wl, hw⟩ : ∃ X, X = wz := ⟨_, rfl⟩; rw [← hw] at hI ⊢; clear hw
  refine hK.out _ _ ?_ (fun hHeld => ?_)
  ·exact HK.out _ _ hI.out.r
  clear hK K
  try simp only [Act.put, zA, zB, zC, zD, zE, zF]
  refine ?c1_3; rotate_left 1
  exact AllReadyH.nil
  refine AllReadyH.cons (by rfl) (fun K hK => ?_) ?_
  go_simp
  replace hI := Lib.hid (hI.out.allocQ HLT.out)
  obtain ⟨wz, hw⟩ : ∃ X, X = wl.alloc (.cells #[.bool false, .slice none 0 0, .slice none 0 0] 27) := ⟨_, rfl⟩
  rw [← hw] at hI ⊢; clear hw; generalize wl.heap.size = Q at hI ⊢
  obtain ⟨wl, hw⟩ : ∃ X, X = wz := ⟨_, rfl⟩; rw [← hw] at hI ⊢; clear hw
  refine hK.out _ _ ?_ (fun hHeld => ?_)
  ·exact HK.out _ _ hI.out.r
  clear hK K
  try simp only [Act.put, zA, zB, zC, zD, zE, zF]
  refine ?c0_1; rotate_left 1
  exact AllReadyH.nil
  refine AllReadyH.cons (by rfl) (fun K hK => ?_) ?_
  go_simp
  replace hI := Lib.hid (hI.out.allocQ HLT.out)
  obtain ⟨wz, hw⟩ : ∃ X, X = wl.alloc (.cells #[.bool false, .slice none 0 0, .slice none 0 0] 27) := ⟨_, rfl⟩
  rw [← hw] at hI ⊢; clear hw; generalize wl.heap.size = Q at hI ⊢
  obtain ⟨wl, hw⟩ : ∃ X, X = wz := ⟨_, rfl⟩; rw [← hw] at hI ⊢; clear hw
  refine hK.out _ _ ?_ (fun hHeld => ?_)
  ·exact HK.out _ _ hI.out.r
  clear hK K
  try simp only [Act.put, zA, zB, zC, zD, zE, zF]
  refine rdy [3, 10] ?_
  refine AllReadyH.cons (by rfl) (fun K hK => ?_) ?_
  go_simp
  refine (sp_of hI.out HLT.out).mono ?_
  clear hI
  rintro e wl ⟨ms, ma, ml, mc, mb, mk, me, rfl, hI⟩
  refine hK.out _ _ ?_ (fun hHeld => ?_)
  ·exact HK.out _ _ hI.out.r
  clear hK K
  try simp only [Act.put, zA, zB, zC, zD, zE, zF]
  refine rdy [4, 10] ?_
  refine AllReadyH.cons (by rfl) (fun K hK => ?_) ?_
  go_simp
  refine (sp_one hI.out HLT.out).mono ?_
  clear hI
  rintro e wl ⟨oa, od, rfl, hI⟩
  refine hK.out _ _ ?_ (fun hHeld => ?_)
  ·exact HK.out _ _ hI.out.r
  clear hK K
  try simp only [Act.put, zA, zB, zC, zD, zE, zF]
  refine rdy [5, 10] ?_
  refine AllReadyH.cons (by rfl) (fun K hK => ?_) ?_
  go_simp
  refine (sp_add hI.out HLT.out HP6.out HNN.out).mono ?_
  clear hI
  rintro e wl ⟨ps, pa, pl, pc, pb, pk, pe, a9, cp9, rs9, rfl, hI⟩
  refine hK.out _ _ ?_ (fun hHeld => ?_)
  ·exact HK.out _ _ hI.out.r
  clear hK K
  try simp only [Act.put, zA, zB, zC, zD, zE, zF]
  refine rdy [6, 10] ?_
  refine AllReadyH.cons (by rfl) (fun K hK => ?_) ?_
  go_simp
  refine (sp_norm hI.out HLT.out).mono ?_
  clear hI
  rintro e wl ⟨qs, qa, ql, qc, qb, qk, qe, a8, cp8, rs8, ks, ka, kl, kc, kb, kk, ke, rfl, hI⟩
  refine hK.out _ _ ?_ (fun hHeld => ?_)
  ·exact HK.out _ _ hI.out.r
  clear hK K
  try simp only [Act.put, zA, zB, zC, zD, zE, zF]
  refine tkV 7 hHeld ?_
  try simp only [Act.put, zA, zB, zC, zD, zE, zF]
  refine tkV 8 hHeld ?_
  try simp only [Act.put, zA, zB, zC, zD, zE, zF]
  refine tkV 9 hHeld ?_
  try simp only [Act.put, zA, zB, zC, zD, zE, zF]
  refine rdy [10] ?_
  refine AllReadyH.cons (by rfl) (fun K hK => ?_) AllReadyH.nil
  go_simp
  replace hI := Lib.hid (hI.out.allocP HLT.out)
  obtain ⟨wz, hw⟩ : ∃ X, X = wl.alloc (.cells #[.bool false, .slice none 0 0, .slice none 0 0, .slice none 0 0] 30) := ⟨_, rfl⟩
  rw [← hw] at hI ⊢; clear hw; generalize wl.heap.size = P at hI ⊢
  obtain ⟨wl, hw⟩ : ∃ X, X = wz := ⟨_, rfl⟩; rw [← hw] at hI ⊢; clear hw
  refine hK.out _ _ ?_ (fun hHeld => ?_)
  ·exact HK.out _ _ hI.out.r
  clear hK K
  try simp only [Act.put, zA, zB, zC, zD, zE, zF]
  refine ?c4_10; rotate_left 1
  refine AllReadyH.cons (by rfl) (fun K hK => ?_) ?_
  go_simp
  replace hI := Lib.hid (hI.out.allocP HLT.out)
  obtain ⟨wz, hw⟩ : ∃ X, X = wl.alloc (.cells #[.bool false, .slice none 0 0, .slice none 0 0, .slice none 0 0] 30) := ⟨_, rfl⟩
  rw [← hw] at hI ⊢; clear hw; generalize wl.heap.size = P at hI ⊢
  obtain ⟨wl, hw⟩ : ∃ X, X = wz := ⟨_, rfl⟩; rw [← hw] at hI ⊢; clear hw
  refine hK.out _ _ ?_ (fun hHeld => ?_)
  ·exact HK.out _ _ hI.out.r
  clear hK K
  try simp only [Act.put, zA, zB, zC, zD, zE, zF]
  refine ?c3_8; rotate_left 1
  exact AllReadyH.nil
  refine AllReadyH.cons (by rfl) (fun K hK => ?_) ?_
  go_simp
  replace hI := Lib.hid (hI.out.allocP HLT.out)
  obtain ⟨wz, hw⟩ : ∃ X, X = wl.alloc (.cells #[.bool false, .slice none 0 0, .slice none 0 0, .slice none 0 0] 30) := ⟨_, rfl⟩
  rw [← hw] at hI ⊢; clear hw; generalize wl.heap.size = P at hI ⊢
  obtain ⟨wl, hw⟩ : ∃ X, X = wz := ⟨_, rfl⟩; rw [← hw] at hI ⊢; clear hw
  refine hK.out _ _ ?_ (fun hHeld => ?_)
  ·exact HK.out _ _ hI.out.r
  clear hK K
  try simp only [Act.put, zA, zB, zC, zD, zE, zF]
  refine ?c2_6; rotate_left 1
  exact AllReadyH.nil
  refine AllReadyH.cons (by rfl) (fun K hK => ?_) ?_
  go_simp
  replace hI := Lib.hid (hI.out.allocP HLT.out)
  obtain ⟨wz, hw⟩ : ∃ X, X = wl.alloc (.cells #[.bool false, .slice none 0 0, .slice none 0 0, .slice none 0 0] 30) := ⟨_, rfl⟩
  rw [← hw] at hI ⊢; clear hw; generalize wl.heap.size = P at hI ⊢
  obtain ⟨wl, hw⟩ : ∃ X, X = wz := ⟨_, rfl⟩; rw [← hw] at hI ⊢; clear hw
  refine hK.out _ _ ?_ (fun hHeld => ?_)
  ·exact HK.out _ _ hI.out.r
  clear hK K
  try simp only [Act.put, zA, zB, zC, zD, zE, zF]
  refine ?c1_4; rotate_left 1
  exact AllReadyH.nil
  refine AllReadyH.cons (by rfl) (fun K hK => ?_) ?_
  go_simp
  replace hI := Lib.hid (hI.out.allocP HLT.out)
  obtain ⟨wz, hw⟩ : ∃ X, X = wl.alloc (.cells #[.bool false, .slice none 0 0, .slice none 0 0, .slice none 0 0] 30) := ⟨_, rfl⟩
  rw [← hw] at hI ⊢; clear hw; generalize wl.heap.size = P at hI ⊢
  obtain ⟨wl, hw⟩ : ∃ X, X = wz := ⟨_, rfl⟩; rw [← hw] at hI ⊢; clear hw
  refine hK.out _ _ ?_ (fun hHeld => ?_)
  ·exact HK.out _ _ hI.out.r
  clear hK K
  try simp only [Act.put, zA, zB, zC, zD, zE, zF]
  refine ?c0_2; rotate_left 1
  exact AllReadyH.nil
  exact AllReadyH.nil
  case c0_1 | c0_2 =>
   refine rdy [3] ?_
   refine AllReadyH.cons (by rfl) (fun K hK => ?_) AllReadyH.nil
   go_simp
   refine (sp_of hI.out HLT.out).mono ?_
   clear hI
   rintro e wl ⟨ms, ma, ml, mc, mb, mk, me, rfl, hI⟩
   refine hK.out _ _ ?_ (fun hHeld => ?_)
   ·exact HK.out _ _ hI.out.r
   clear hK K
   try simp only [Act.put, zA, zB, zC, zD, zE, zF]
   refine rdy [4] ?_
   refine AllReadyH.cons (by rfl) (fun K hK => ?_) AllReadyH.nil
   go_simp
   refine (sp_one hI.out HLT.out).mono ?_
   clear hI
   rintro e wl ⟨oa, od, rfl, hI⟩
   refine hK.out _ _ ?_ (fun hHeld => ?_)
   ·exact HK.out _ _ hI.out.r
   clear hK K
   try simp only [Act.put, zA, zB, zC, zD, zE, zF]
   refine rdy [5] ?_
   refine AllReadyH.cons (by rfl) (fun K hK => ?_) AllReadyH.nil
   go_simp
   refine (sp_add hI.out HLT.out HP6.out HNN.out).mono ?_
   clear hI
   rintro e wl ⟨ps, pa, pl, pc, pb, pk, pe, a9, cp9, rs9, rfl, hI⟩
   refine hK.out _ _ ?_ (fun hHeld => ?_)
   ·exact HK.out _ _ hI.out.r
   clear hK K
   try simp only [Act.put, zA, zB, zC, zD, zE, zF]
   refine rdy [6] ?_
   refine AllReadyH.cons (by rfl) (fun K hK => ?_) AllReadyH.nil
   go_simp
   refine (sp_norm hI.out HLT.out).mono ?_
   clear hI
   rintro e wl ⟨qs, qa, ql, qc, qb, qk, qe, a8, cp8, rs8, ks, ka, kl, kc, kb, kk, ke, rfl, hI⟩
   refine hK.out _ _ ?_ (fun hHeld => ?_)
   ·exact HK.out _ _ hI.out.r
   clear hK K
   try simp only [Act.put, zA, zB, zC, zD, zE, zF]
   refine tkV 7 hHeld ?_
   try simp only [Act.put, zA, zB, zC, zD, zE, zF]
   refine tkV 8 hHeld ?_
   try simp only [Act.put, zA, zB, zC, zD, zE, zF]
   refine tkV 9 hHeld ?_
   try simp only [Act.put, zA, zB, zC, zD, zE, zF]
   refine rdy [12] ?_
   refine AllReadyH.cons (by rfl) (fun K hK => ?_) AllReadyH.nil
   obtain ⟨x0, x1, x2, x3, f0, f1, f2, f3⟩ := cellsL4 (hI.out.p _ rfl).2
   go_simp
   change K _ (putL4 wl P (.bool qs) (.slice qa ql qc) (.slice qb qk qe) (.slice a8 rs8.length cp8))
   clear x0 x1 x2 x3 f0 f1 f2 f3
   have hE := Lib.hid (sp_stP (cp := cp8) hI.out HT6.out HLT.out)
   clear hI
   obtain ⟨wp, hw⟩ : ∃ X, X = putL4 wl P (.bool qs) (.slice qa ql qc) (.slice qb qk qe) (.slice a8 rs8.length cp8) := ⟨_, rfl⟩
   rw [← hw] at hE ⊢
   clear hw
   refine hK.out _ _ ?_ (fun hHeld => ?_)
   ·exact HK.out _ _ hE.out.r
   clear hK K
   try simp only [Act.put, zA, zB, zC, zD, zE, zF]
   refine rdy [13] ?_
   refine AllReadyH.cons (by rfl) (fun K hK => ?_) AllReadyH.nil
   obtain ⟨x0, x1, x2, f0, f1, f2⟩ := cells3 (show Blank _ _ from hE.out.q)
   go_simp
   change K _ (set3 wp Q ks (.slice ka kl kc) (.slice kb kk ke))
   clear x0 x1 x2 f0 f1 f2
   have hF := Lib.hid (spk_end (m := (ms, (ma, ml, mc), (mb, mk, me))) (oa := oa) (pr := (ps, (pa, pl, pc), (pb, pk, pe))) (pa := a9) (pl := rs9.length) (pc := cp9) hE.out HT6.out HLT.out)
   refine hK.out _ _ ?_ (fun hHeld => ?_)
   ·exact HK.out _ _ hF.out.r
   clear hK K
   try simp only [Act.put, zA, zB, zC, zD, zE, zF]
   refine wpAnyH_done (by kernel_rfl) ?_ _
   exact ⟨_, by simp only [puts, Act.put, zA, zB, zC, zD, zE, zF], hF.out⟩
  case c1_1 | c1_2 | c1_3 | c1_4 =>
   refine rdy [4] ?_
   refine AllReadyH.cons (by rfl) (fun K hK => ?_) AllReadyH.nil
   go_simp
   refine (sp_one hI.out HLT.out).mono ?_
   clear hI
   rintro e wl ⟨oa, od, rfl, hI⟩
   refine hK.out _ _ ?_ (fun hHeld => ?_)
   ·exact HK.out _ _ hI.out.r
   clear hK K
   try simp only [Act.put, zA, zB, zC, zD, zE, zF]
   refine rdy [5] ?_
   refine AllReadyH.cons (by rfl) (fun K hK => ?_) AllReadyH.nil
   go_simp
   refine (sp_add hI.out HLT.out HP6.out HNN.out).mono ?_
   clear hI
   rintro e wl ⟨ps, pa, pl, pc, pb, pk, pe, a9, cp9, rs9, rfl, hI⟩
   refine hK.out _ _ ?_ (fun hHeld => ?_)
   ·exact HK.out _ _ hI.out.r
   clear hK K
   try simp only [Act.put, zA, zB, zC, zD, zE, zF]
   refine rdy [6] ?_
   refine AllReadyH.cons (by rfl) (fun K hK => ?_) AllReadyH.nil
   go_simp
   refine (sp_norm hI.out HLT.out).mono ?_
   clear hI
   rintro e wl ⟨qs, qa, ql, qc, qb, qk, qe, a8, cp8, rs8, ks, ka, kl, kc, kb, kk, ke, rfl, hI⟩
   refine hK.out _ _ ?_ (fun hHeld => ?_)
   ·exact HK.out _ _ hI.out.r
   clear hK K
   try simp only [Act.put, zA, zB, zC, zD, zE, zF]
   refine tkV 7 hHeld ?_
   try simp only [Act.put, zA, zB, zC, zD, zE, zF]
   refine tkV 8 hHeld ?_
   try simp only [Act.put, zA, zB, zC, zD, zE, zF]
   refine tkV 9 hHeld ?_
   try simp only [Act.put, zA, zB, zC, zD, zE, zF]
   refine rdy [12] ?_
   refine AllReadyH.cons (by rfl) (fun K hK => ?_) AllReadyH.nil
   obtain ⟨x0, x1, x2, x3, f0, f1, f2, f3⟩ := cellsL4 (hI.out.p _ rfl).2
   go_simp
   change K _ (putL4 wl P (.bool qs) (.slice qa ql qc) (.slice qb qk qe) (.slice a8 rs8.length cp8))
   clear x0 x1 x2 x3 f0 f1 f2 f3
   have hE := Lib.hid (sp_stP (cp := cp8) hI.out HT6.out HLT.out)
   clear hI
   obtain ⟨wp, hw⟩ : ∃ X, X = putL4 wl P (.bool qs) (.slice qa ql qc) (.slice qb qk qe) (.slice a8 rs8.length cp8) := ⟨_, rfl⟩
   rw [← hw] at hE ⊢
   clear hw
   refine hK.out _ _ ?_ (fun hHeld => ?_)
   ·exact HK.out _ _ hE.out.r
   clear hK K
   try simp only [Act.put, zA, zB, zC, zD, zE, zF]
   refine rdy [13] ?_
   refine AllReadyH.cons (by rfl) (fun K hK => ?_) AllReadyH.nil
   obtain ⟨x0, x1, x2, f0, f1, f2⟩ := cells3 (show Blank _ _ from hE.out.q)
   go_simp
   change K _ (set3 wp Q ks (.slice ka kl kc) (.slice kb kk ke))
   clear x0 x1 x2 f0 f1 f2
   have hF := Lib.hid (spk_end (m := (ms, (ma, ml, mc), (mb, mk, me))) (oa := oa) (pr := (ps, (pa, pl, pc), (pb, pk, pe))) (pa := a9) (pl := rs9.length) (pc := cp9) hE.out HT6.out HLT.out)
   refine hK.out _ _ ?_ (fun hHeld => ?_)
   ·exact HK.out _ _ hF.out.r
   clear hK K
   try simp only [Act.put, zA, zB, zC, zD, zE, zF]
   refine wpAnyH_done (by kernel_rfl) ?_ _
   exact ⟨_, by simp only [puts, Act.put, zA, zB, zC, zD, zE, zF], hF.out⟩
  case c2_1 | c2_2 | c2_3 | c2_4 | c2_5 | c2_6 =>
   refine rdy [5] ?_
   refine AllReadyH.cons (by rfl) (fun K hK => ?_) AllReadyH.nil
   go_simp
   refine (sp_add hI.out HLT.out HP6.out HNN.out).mono ?_
   clear hI
   rintro e wl ⟨ps, pa, pl, pc, pb, pk, pe, a9, cp9, rs9, rfl, hI⟩
   refine hK.out _ _ ?_ (fun hHeld => ?_)
   ·exact HK.out _ _ hI.out.r
   clear hK K
   try simp only [Act.put, zA, zB, zC, zD, zE, zF]
   refine rdy [6] ?_
   refine AllReadyH.cons (by rfl) (fun K hK => ?_) AllReadyH.nil
   go_simp
   refine (sp_norm hI.out HLT.out).mono ?_
   clear hI
   rintro e wl ⟨qs, qa, ql, qc, qb, qk, qe, a8, cp8, rs8, ks, ka, kl, kc, kb, kk, ke, rfl, hI⟩
   refine hK.out _ _ ?_ (fun hHeld => ?_)
   ·exact HK.out _ _ hI.out.r
   clear hK K
   try simp only [Act.put, zA, zB, zC, zD, zE, zF]
   refine tkV 7 hHeld ?_
   try simp only [Act.put, zA, zB, zC, zD, zE, zF]
   refine tkV 8 hHeld ?_
   try simp only [Act.put, zA, zB, zC, zD, zE, zF]
   refine tkV 9 hHeld ?_
   try simp only [Act.put, zA, zB, zC, zD, zE, zF]
   refine rdy [12] ?_
   refine AllReadyH.cons (by rfl) (fun K hK => ?_) AllReadyH.nil
   obtain ⟨x0, x1, x2, x3, f0, f1, f2, f3⟩ := cellsL4 (hI.out.p _ rfl).2
   go_simp
   change K _ (putL4 wl P (.bool qs) (.slice qa ql qc) (.slice qb qk qe) (.slice a8 rs8.length cp8))
   clear x0 x1 x2 x3 f0 f1 f2 f3
   have hE := Lib.hid (sp_stP (cp := cp8) hI.out HT6.out HLT.out)
   clear hI
   obtain ⟨wp, hw⟩ : ∃ X, X = putL4 wl P (.bool qs) (.slice qa ql qc) (.slice qb qk qe) (.slice a8 rs8.length cp8) := ⟨_, rfl⟩
   rw [← hw] at hE ⊢
   clear hw
   refine hK.out _ _ ?_ (fun hHeld => ?_)
   ·exact HK.out _ _ hE.out.r
   clear hK K
   try simp only [Act.put, zA, zB, zC, zD, zE, zF]
   refine rdy [13] ?_
   refine AllReadyH.cons (by rfl) (fun K hK => ?_) AllReadyH.nil
   obtain ⟨x0, x1, x2, f0, f1, f2⟩ := cells3 (show Blank _ _ from hE.out.q)
   go_simp
   change K _ (set3 wp Q ks (.slice ka kl kc) (.slice kb kk ke))
   clear x0 x1 x2 f0 f1 f2
   have hF := Lib.hid (spk_end (m := (ms, (ma, ml, mc), (mb, mk, me))) (oa := oa) (pr := (ps, (pa, pl, pc), (pb, pk, pe))) (pa := a9) (pl := rs9.length) (pc := cp9) hE.out HT6.out HLT.out)
   refine hK.out _ _ ?_ (fun hHeld => ?_)
   ·exact HK.out _ _ hF.out.r
   clear hK K
   try simp only [Act.put, zA, zB, zC, zD, zE, zF]
   refine wpAnyH_done (by kernel_rfl) ?_ _
   exact ⟨_, by simp only [puts, Act.put, zA, zB, zC, zD, zE, zF], hF.out⟩
  case c3_1 | c3_2 | c3_3 | c3_4 | c3_5 | c3_6 | c3_7 | c3_8 =>
   refine rdy [6] ?_
   refine AllReadyH.cons (by rfl) (fun K hK => ?_) AllReadyH.nil
   go_simp
   refine (sp_norm hI.out HLT.out).mono ?_
   clear hI
   rintro e wl ⟨qs, qa, ql, qc, qb, qk, qe, a8, cp8, rs8, ks, ka, kl, kc, kb, kk, ke, rfl, hI⟩
   refine hK.out _ _ ?_ (fun hHeld => ?_)
   ·exact HK.out _ _ hI.out.r
   clear hK K
   try simp only [Act.put, zA, zB, zC, zD, zE, zF]
   refine tkV 7 hHeld ?_
   try simp only [Act.put, zA, zB, zC, zD, zE, zF]
   refine tkV 8 hHeld ?_
   try simp only [Act.put, zA, zB, zC, zD, zE, zF]
   refine tkV 9 hHeld ?_
   try simp only [Act.put, zA, zB, zC, zD, zE, zF]
   refine rdy [12] ?_
   refine AllReadyH.cons (by rfl) (fun K hK => ?_) AllReadyH.nil
   obtain ⟨x0, x1, x2, x3, f0, f1, f2, f3⟩ := cellsL4 (hI.out.p _ rfl).2
   go_simp
   change K _ (putL4 wl P (.bool qs) (.slice qa ql qc) (.slice qb qk qe) (.slice a8 rs8.length cp8))
   clear x0 x1 x2 x3 f0 f1 f2 f3
   have hE := Lib.hid (sp_stP (cp := cp8) hI.out HT6.out HLT.out)
   clear hI
   obtain ⟨wp, hw⟩ : ∃ X, X = putL4 wl P (.bool qs) (.slice qa ql qc) (.slice qb qk qe) (.slice a8 rs8.length cp8) := ⟨_, rfl⟩
   rw [← hw] at hE ⊢
   clear hw
   refine hK.out _ _ ?_ (fun hHeld => ?_)
   ·exact HK.out _ _ hE.out.r
   clear hK K
   try simp only [Act.put, zA, zB, zC, zD, zE, zF]
   refine rdy [13] ?_
   refine AllReadyH.cons (by rfl) (fun K hK => ?_) AllReadyH.nil
   obtain ⟨x0, x1, x2, f0, f1, f2⟩ := cells3 (show Blank _ _ from hE.out.q)
   go_simp
   change K _ (set3 wp Q ks (.slice ka kl kc) (.slice kb kk ke))
   clear x0 x1 x2 f0 f1 f2
   have hF := Lib.hid (spk_end (m := (ms, (ma, ml, mc), (mb, mk, me))) (oa := oa) (pr := (ps, (pa, pl, pc), (pb, pk, pe))) (pa := a9) (pl := rs9.length) (pc := cp9) hE.out HT6.out HLT.out)
   refine hK.out _ _ ?_ (fun hHeld => ?_)
   ·exact HK.out _ _ hF.out.r
   clear hK K
   try simp only [Act.put, zA, zB, zC, zD, zE, zF]
   refine wpAnyH_done (by kernel_rfl) ?_ _
   exact ⟨_, by simp only [puts, Act.put, zA, zB, zC, zD, zE, zF], hF.out⟩
  case c4_1 | c4_2 | c4_3 | c4_4 | c4_5 | c4_6 | c4_7 | c4_8 | c4_9 | c4_10 =>
   refine rdy [12] ?_
   refine AllReadyH.cons (by rfl) (fun K hK => ?_) AllReadyH.nil
   obtain ⟨x0, x1, x2, x3, f0, f1, f2, f3⟩ := cellsL4 (hI.out.p _ rfl).2
   go_simp
   change K _ (putL4 wl P (.bool qs) (.slice qa ql qc) (.slice qb qk qe) (.slice a8 rs8.length cp8))
   clear x0 x1 x2 x3 f0 f1 f2 f3
   have hE := Lib.hid (sp_stP (cp := cp8) hI.out HT6.out HLT.out)
   clear hI
   obtain ⟨wp, hw⟩ : ∃ X, X = putL4 wl P (.bool qs) (.slice qa ql qc) (.slice qb qk qe) (.slice a8 rs8.length cp8) := ⟨_, rfl⟩
   rw [← hw] at hE ⊢
   clear hw
   refine hK.out _ _ ?_ (fun hHeld => ?_)
   ·exact HK.out _ _ hE.out.r
   clear hK K
   try simp only [Act.put, zA, zB, zC, zD, zE, zF]
   refine rdy [13] ?_
   refine AllReadyH.cons (by rfl) (fun K hK => ?_) AllReadyH.nil
   obtain ⟨x0, x1, x2, f0, f1, f2⟩ := cells3 (show Blank _ _ from hE.out.q)
   go_simp
   change K _ (set3 wp Q ks (.slice ka kl kc) (.slice kb kk ke))
   clear x0 x1 x2 f0 f1 f2
   have hF := Lib.hid (spk_end (m := (ms, (ma, ml, mc), (mb, mk, me))) (oa := oa) (pr := (ps, (pa, pl, pc), (pb, pk, pe))) (pa := a9) (pl := rs9.length) (pc := cp9) hE.out HT6.out HLT.out)
   refine hK.out _ _ ?_ (fun hHeld => ?_)
   ·exact HK.out _ _ hF.out.r
   clear hK K
   try simp only [Act.put, zA, zB, zC, zD, zE, zF]
   refine wpAnyH_done (by kernel_rfl) ?_ _
   exact ⟨_, by simp only [puts, Act.put, zA, zB, zC, zD, zE, zF], hF.out⟩
end Go.Proofs.YtpjeecahaeaajaaGreatDoor

namespace Go.Proofs.YtpjeecahaeaajaaGreatDoor
open Go.RowKit Rep Ln
theorem coef_szO {ms : List Mo} {n : Nat} (h : ∀ x ∈ ms, szQ x.2 ≤ n) (v : Int) : szQ (coef ms v) ≤ n := by
 induction ms with
 | nil => simp only [coef]; rw [szQ_zero]; omega
 | cons m ms ih =>
  simp only [coef]
  split
  ·exact h m (by simp)
  ·exact ih (fun x hx => h x (by simp [hx]))
theorem ovQ_zero {m : Nat} : ovQ m 0 = false := by
 have h1 : L (mgQ 0) = [] := by decide +kernel
 have h2 : L (denN (0 : Rat).den) = [] := by decide +kernel
 unfold ovQ rO
 rw [h1, h2]
 simp
theorem keep_in {m : Nat} {v : Int} {q : Rat} (h : ovQ m q = true) : (v, q) ∈ keep (v, q) := by
 unfold keep
 rw [if_neg]
 ·simp
 ·intro h0
  dsimp only at h0
  rw [h0, ovQ_zero] at h
  cases h
theorem meet_fits {m : Nat} {x : Mo} {r : List Mo} (h : meetO m x r = true) : ovQ m x.2 = true ∨ ∃ y ∈ (meet x r).1, ovQ m y.2 = true := by
 cases r with
 | nil => exact .inl h
 | cons n r' =>
  unfold meetO at h
  dsimp only at h
  split at h
  ·rename_i e
   right
   unfold meet
   dsimp only
   rw [if_pos e]
   exact ⟨_, keep_in h, h⟩
  ·exact .inl h
theorem merge_fits {m : Nat} : ∀ {l r : List Mo}, mergeO m l r = true → (∃ x ∈ l, ovQ m x.2 = true) ∨ ∃ y ∈ merge l r, ovQ m y.2 = true
 | [], r, h => by simp [mergeO] at h
 | x :: l, r, h => by
  simp only [mergeO, Bool.or_eq_true] at h
  rcases h with h | h
  ·rcases meet_fits h with h | ⟨y, hy, h⟩
   ·exact .inl ⟨x, by simp, h⟩
   ·exact .inr ⟨y, by simp only [merge, step1, List.mem_append]; exact .inl (.inr hy), h⟩
  ·rcases merge_fits h with ⟨y, hy, h⟩ | ⟨y, hy, h⟩
   ·exact .inl ⟨y, by simp [hy], h⟩
   ·exact .inr ⟨y, by simp only [merge, List.mem_append]; exact .inr hy, h⟩
theorem pols3 {W : World} {g : Nat} {t : TypeId} {ps qs ks : Bool} {pa pb pm qa qb qm ka kb : Option Addr} {pc pe pn qc qe qn kc ke : Nat} {px pd qx qd kx kd : List Nat} {phs qhs : List HM} (h : W.heap[g]? = some (.cells #[.bool ps, .slice pa px.length pc, .slice pb pd.length pe, .slice pm phs.length pn, .bool qs, .slice qa qx.length qc, .slice qb qd.length qe, .slice qm qhs.length qn, .bool ks, .slice ka kx.length kc, .slice kb kd.length ke, .slice none 0 0] t (0, 0))) : Pols W g [(⟨ps, pa, pc, px, pb, pe, pd, pm, pn, phs⟩ : HPo), (⟨qs, qa, qc, qx, qb, qe, qd, qm, qn, qhs⟩ : HPo), (⟨ks, ka, kc, kx, kb, ke, kd, none, 0, []⟩ : HPo)] := fun k p hk j u hu => by
 rcases k with _ | _ | _ | k
 ·simp at hk; subst hk
  rcases j with _ | _ | _ | _ | j <;> simp [HPo.cells] at hu <;> subst hu <;> simp [World.cell?, h]
 ·simp at hk; subst hk
  rcases j with _ | _ | _ | _ | j <;> simp [HPo.cells] at hu <;> subst hu <;> simp [World.cell?, h]
 ·simp at hk; subst hk
  rcases j with _ | _ | _ | _ | j <;> simp [HPo.cells] at hu <;> subst hu <;> simp [World.cell?, h]
 ·simp at hk
structure Sq (W5 : World) (P : Option Nat) (V : World → Prop) (W : World) : Prop where
 r : Below W5.heap.size W5 W
 p : ∀ g, P = some g → W5.heap.size ≤ g ∧ W.heap[g]? = some (.cells #[.bool false, .slice none 0 0, .slice none 0 0, .slice none 0 0] 30 (0, 0))
 v : ∀ W', Below W.heap.size W W' → V W'
theorem Sq.step {W5 W W' : World} {P : Option Nat} {V V' : World → Prop} (h : Sq W5 P V W) (k : Below W.heap.size W W') (v : ∀ X, Below W'.heap.size W' X → V' X) : Sq W5 P V' W' :=
 ⟨h.r.trans (k.mono h.r.size), fun g e => ⟨(h.p g e).1, stayL (h.p g e).2 k⟩, v⟩
theorem Sq.now {W5 W : World} {P : Option Nat} {V : World → Prop} (h : Sq W5 P V W) : V W := h.v _ (Below.refl _ _)
theorem Sq.alloc {W5 W : World} {V : World → Prop} (h : Sq W5 none V W) : Sq W5 (some W.heap.size) V (W.alloc (.cells #[.bool false, .slice none 0 0, .slice none 0 0, .slice none 0 0] 30)) := by
 have k := (Below.refl W.heap.size W).alloc (Nat.le_refl _) (.cells #[.bool false, .slice none 0 0, .slice none 0 0, .slice none 0 0] 30)
 have hs := h.step k (fun X hX => h.v X (k.trans (hX.mono k.size)))
 exact ⟨hs.r, fun g e => by cases e; exact ⟨h.r.size, heap_alloc_new W _⟩, hs.v⟩
structure SqI where
 P : Nat
 d : RawR
 v : RawR
 a : Option Addr
 rs : List RM
 cp : Nat
structure SqAt (W5 : World) (c : Rat) (ms : List Mo) (i : SqI) (W : World) : Prop where
 r : Below W5.heap.size W5 W
 ge : W5.heap.size ≤ i.P
 blk : W.heap[i.P]? = some (.cells #[.bool i.v.1, .slice i.v.2.1.1 i.v.2.1.2.1 i.v.2.1.2.2, .slice i.v.2.2.1 i.v.2.2.2.1 i.v.2.2.2.2, .slice i.a i.rs.length i.cp] 30 (0, 0))
 poly : PolyAt c ms i.v i.a i.rs W
theorem SmP.plain {W : World} {ps : Bool} {pa pb pm : Option Addr} {pc pe pn : Nat} {px pd : List Nat} {phs : List HM} (h : SmP W (⟨ps, pa, pc, px, pb, pe, pd, pm, pn, phs⟩ : HPo)) :
    ∃ c ms rs, List.length rs = phs.length ∧ PolyAt c ms (ps, (pa, px.length, pc), (pb, pd.length, pe)) pm rs W ∧ Fit ms ∧ szQ c ≤ 6 ∧ (∀ x ∈ ms, szQ x.2 ≤ 6) ∧ phs.length ≤ 12 ∧ (∀ x ∈ ms, 0 ≤ x.1) ∧ ms.length = phs.length :=
 ⟨_, _, _, by simp [HPo.rms], h.poly, h.fit, h.zc, h.zm, h.len, h.pos, by simp [HPo.mos]⟩
theorem SmP.plainK {W : World} {ks : Bool} {ka kb : Option Addr} {kc ke : Nat} {kx kd : List Nat} (h : SmP W (⟨ks, ka, kc, kx, kb, ke, kd, none, 0, []⟩ : HPo)) : ∃ k, VQ k (ks, (ka, kx.length, kc), (kb, kd.length, ke)) W ∧ szQ k ≤ 6 := ⟨_, h.poly.num, h.zc⟩
theorem add_sm {w : World} {b m : Nat} {o : Bool} {k c1 c2 : Rat} {ms1 ms2 : List Mo} {ps : Bool} {pa pb : Option Addr} {pl pc pk pe : Nat} {ks : Bool} {ka kb : Option Addr} {kl kc kk ke : Nat} {qs : Bool} {qa qb : Option Addr} {ql qc qk qe : Nat} {a1 a2 : Option Addr} {cp1 cp2 n1 n2 : Nat} {rs1 rs2 : List RM} (hB : Bench w b m o) (hT : Tab w)
    (hp : PolyAt c1 ms1 (ps, (pa, pl, pc), (pb, pk, pe)) a1 rs1 w) (hk : VQ k (ks, (ka, kl, kc), (kb, kk, ke)) w) (hq : PolyAt c2 ms2 (qs, (qa, ql, qc), (qb, qk, qe)) a2 rs2 w) (zk : szQ k ≤ 6) (z1 : szQ c1 ≤ 6) (zm1 : ∀ x ∈ ms1, szQ x.2 ≤ 6) (z2 : szQ c2 ≤ 6) (zm2 : ∀ x ∈ ms2, szQ x.2 ≤ 6) (l1 : n1 ≤ 12) (l2 : n2 ≤ 12) (e1 : rs1.length = n1) (e2 : rs2.length = n2) :
    Calls Tryz.prog 16 #[.pointer (some ⟨b, 0, none⟩), .agg #[.bool ps, .slice pa pl pc, .slice pb pk pe, .slice a1 n1 cp1], .agg #[.bool ks, .slice ka kl kc, .slice kb kk ke], .agg #[.bool qs, .slice qa ql qc, .slice qb qk qe, .slice a2 n2 cp2]] w (GotP b m (addO m o c1 ms1 k c2 ms2) w (c1 + k * c2) (merge ms1 (scale k ms2))) := by
 subst e1 e2
 exact Add_p hB hT hp hk hq (by omega) (by omega) (fun x hx => by have := zm1 x hx; omega) (by omega) (fun x hx => by have := zm2 x hx; omega) (by omega) (by omega)
theorem addC_sz {k c1 c2 : Rat} (zk : szQ k ≤ 6) (z1 : szQ c1 ≤ 6) (z2 : szQ c2 ≤ 6) : szQ (c1 + k * c2) ≤ 24 := by
 have h1 := szQ_add c1 (k * c2)
 have h2 := szQ_mul k c2
 omega
theorem refAdd_sz {k : Rat} {l r : List Mo} (zk : szQ k ≤ 6) (z1 : ∀ x ∈ l, szQ x.2 ≤ 6) (z2 : ∀ x ∈ r, szQ x.2 ≤ 6) : ∀ x ∈ refAdd l k r, szQ x.2 ≤ 24 := by
 intro x hx
 obtain ⟨v, hv, h1⟩ := List.mem_flatMap.1 hx
 unfold keep at h1
 split at h1
 ·simp at h1
 ·simp at h1
  rw [h1]
  exact addC_sz zk (coef_szO z1 v) (coef_szO z2 v)
theorem addR_len {k : Rat} {l r : List Mo} (h1 : Fit l) (h2 : Fit r) : (refAdd l k r).length ≤ l.length + r.length := by
 rw [← merge_ref h1 h2]
 have := merge_len l (scale k r)
 have := scale_len k r
 omega
theorem cells11 {W : World} {g : Nat} {ps qs ks : Bool} {pa pb pm qa qb qm ka kb : Option Addr} {pl pc pk pe pj pn ql qc qk qe qj qn kl kc kk ke : Nat} {t1 t2 t3 : TypeId} (b0 : W.heap[g]? = some (.cells #[.bool ps, .slice pa pl pc, .slice pb pk pe, .slice pm pj pn] t1 (0, 0))) (b1 : W.heap[g + 1]? = some (.cells #[.bool qs, .slice qa ql qc, .slice qb qk qe, .slice qm qj qn] t2 (0, 0))) (b2 : W.heap[g + 1 + 1]? = some (.cells #[.bool ks, .slice ka kl kc, .slice kb kk ke] t3 (0, 0))) :
    W.cell? ⟨g, 0, none⟩ = some (.bool ps) ∧ W.cell? ⟨g, 1, none⟩ = some (.slice pa pl pc) ∧ W.cell? ⟨g, 2, none⟩ = some (.slice pb pk pe) ∧ W.cell? ⟨g, 3, none⟩ = some (.slice pm pj pn) ∧
    W.cell? ⟨g + 1, 0, none⟩ = some (.bool qs) ∧ W.cell? ⟨g + 1, 1, none⟩ = some (.slice qa ql qc) ∧ W.cell? ⟨g + 1, 2, none⟩ = some (.slice qb qk qe) ∧ W.cell? ⟨g + 1, 3, none⟩ = some (.slice qm qj qn) ∧
    W.cell? ⟨g + 1 + 1, 0, none⟩ = some (.bool ks) ∧ W.cell? ⟨g + 1 + 1, 1, none⟩ = some (.slice ka kl kc) ∧ W.cell? ⟨g + 1 + 1, 2, none⟩ = some (.slice kb kk ke) := by
 obtain ⟨x0, x1, x2, x3, _⟩ := cellsL4 b0
 obtain ⟨y0, y1, y2, y3, _⟩ := cellsL4 b1
 obtain ⟨z0, z1, z2, _⟩ := cells3 b2
 exact ⟨x0, x1, x2, x3, y0, y1, y2, y3, z0, z1, z2⟩
def Three (W : World) (g : Nat) (C1 C2 C3 : Array Value) : Prop := W.heap[g]? = some (.cells C1 30 (0, 0)) ∧ W.heap[g + 1]? = some (.cells C2 30 (0, 0)) ∧ W.heap[g + 1 + 1]? = some (.cells C3 27 (0, 0))
theorem Three.kept {W W' : World} {g : Nat} {C1 C2 C3 : Array Value} (h : Three W g C1 C2 C3) (k : Below W.heap.size W W') : Three W' g C1 C2 C3 := ⟨stayL h.1 k, stayL h.2.1 k, stayL h.2.2 k⟩
theorem Three.bench {W W' : World} {g b m : Nat} {o : Bool} {C1 C2 C3 : Array Value} (h : Three W g C1 C2 C3) (k : BR b m o W W') (hb : g + 1 + 1 < b) : Three W' g C1 C2 C3 := ⟨k.block h.1 (by omega), k.block h.2.1 (by omega), k.block h.2.2 (by omega)⟩
theorem zero_at (W : World) : PolyAt 0 [] (false, (none, 0, 0), (none, 0, 0)) none [] W := ⟨VQ.zero W, MsAt.nil W none⟩
theorem same_sm {w : World} {c1 c2 : Rat} {ms1 ms2 : List Mo} {ps : Bool} {pa pb : Option Addr} {pl pc pk pe : Nat} {qs : Bool} {qa qb : Option Addr} {ql qc qk qe : Nat} {a1 a2 : Option Addr} {cp1 cp2 n1 n2 : Nat} {rs1 rs2 : List RM}
    (hp : PolyAt c1 ms1 (ps, (pa, pl, pc), (pb, pk, pe)) a1 rs1 w) (hq : PolyAt c2 ms2 (qs, (qa, ql, qc), (qb, qk, qe)) a2 rs2 w) (z1 : szQ c1 ≤ 100) (zm : ∀ x ∈ ms1, szQ x.2 ≤ 100) (hn1 : ms1.length ≤ 100) (hn2 : ms2.length ≤ 100) (e1 : rs1.length = n1) (e2 : rs2.length = n2) (he : c1 = c2 ∧ ms1 = ms2) :
    Calls Tryz.prog 15 #[.agg #[.bool ps, .slice pa pl pc, .slice pb pk pe, .slice a1 n1 cp1], .agg #[.bool qs, .slice qa ql qc, .slice qb qk qe, .slice a2 n2 cp2]] w (GivesV (.bool true) w) := by
 subst e1 e2
 have := RSame_any (cp1 := cp1) (cp2 := cp2) hp hq (by omega) (fun x hx => by have := zm x hx; omega) (by have := hp.ms.len; omega) (by have := hq.ms.len; omega)
 rwa [decide_eq_true he] at this
end Go.Proofs.YtpjeecahaeaajaaGreatDoor

namespace Go.Proofs.YtpjeecahaeaajaaGreatDoor
open Go.RowKit Rep Ln
theorem ov_small {m : Nat} {q : Rat} (h : szQ q ≤ m) : ovQ m q = false := by
 unfold szQ at h
 unfold ovQ rO
 rw [Bool.or_eq_false_iff]
 exact ⟨decide_eq_false (by omega), decide_eq_false (by omega)⟩
theorem cell_stay {W W' : World} {g i : Nat} {u : Value} (h : W.cell? ⟨g, i, none⟩ = some u) (hb : Below W.heap.size W W') : W'.cell? ⟨g, i, none⟩ = some u := by
 have hlt := World.block_lt_of_cell? _ _ h
 unfold World.cell? at h ⊢
 rw [hb.block g hlt]
 exact h
structure Sn (W5 : World) (B P Q : Option Nat) (V : World → Prop) (W : World) : Prop where
 r : Below W5.heap.size W5 W
 b : ∀ g, B = some g → W5.heap.size ≤ g ∧ Bench W g 1000 false
 p : ∀ g, P = some g → W5.heap.size ≤ g ∧ W.heap[g]? = some (.cells #[.bool false, .slice none 0 0, .slice none 0 0, .slice none 0 0] 30 (0, 0))
 q : ∀ g, Q = some g → W5.heap.size ≤ g ∧ W.heap[g]? = some (.cells #[.bool false, .slice none 0 0, .slice none 0 0] 27 (0, 0))
 v : ∀ W', Below W.heap.size W W' → V W'
section
variable {W5 W W' : World} {B P Q : Option Nat} {V V' : World → Prop}
theorem Sn.step (h : Sn W5 B P Q V W) (k : Below W.heap.size W W') (v : ∀ X, Below W'.heap.size W' X → V' X) : Sn W5 B P Q V' W' :=
 ⟨h.r.trans (k.mono h.r.size), fun g e => ⟨(h.b g e).1, (h.b g e).2.kept k⟩, fun g e => ⟨(h.p g e).1, stayL (h.p g e).2 k⟩, fun g e => ⟨(h.q g e).1, stayL (h.q g e).2 k⟩, v⟩
theorem Sn.allocP (h : Sn W5 B none Q V W) : Sn W5 B (some W.heap.size) Q V (W.alloc (.cells #[.bool false, .slice none 0 0, .slice none 0 0, .slice none 0 0] 30)) := by
 have k := (Below.refl W.heap.size W).alloc (Nat.le_refl _) (.cells #[.bool false, .slice none 0 0, .slice none 0 0, .slice none 0 0] 30)
 have hs := h.step k (fun X hX => h.v X (k.trans (hX.mono k.size)))
 exact ⟨hs.r, hs.b, fun g e => by cases e; exact ⟨h.r.size, heap_alloc_new W _⟩, hs.q, hs.v⟩
theorem Sn.allocQ (h : Sn W5 B P none V W) : Sn W5 B P (some W.heap.size) V (W.alloc (.cells #[.bool false, .slice none 0 0, .slice none 0 0] 27)) := by
 have k := (Below.refl W.heap.size W).alloc (Nat.le_refl _) (.cells #[.bool false, .slice none 0 0, .slice none 0 0] 27)
 have hs := h.step k (fun X hX => h.v X (k.trans (hX.mono k.size)))
 exact ⟨hs.r, hs.b, hs.p, fun g e => by cases e; exact ⟨h.r.size, heap_alloc_new W _⟩, hs.v⟩
end
structure SnI where
 b : Nat
 P : Nat
 Q : Nat
 q : RawR
 a : Option Addr
 rs : List RM
 cp : Nat
 k : RawR
structure SnE (W5 : World) (c : Rat) (ms : List Mo) (k : Rat) (P Q : Nat) (v : RawR) (a : Option Addr) (rs : List RM) (cp : Nat) (kr : RawR) (W : World) : Prop where
 r : Below W5.heap.size W5 W
 ge : W5.heap.size ≤ Q
 p : W.heap[P]? = some (.cells #[.bool v.1, .slice v.2.1.1 v.2.1.2.1 v.2.1.2.2, .slice v.2.2.1 v.2.2.2.1 v.2.2.2.2, .slice a rs.length cp] 30 (0, 0))
 q : W.heap[Q]? = some (.cells #[.bool false, .slice none 0 0, .slice none 0 0] 27 (0, 0))
 poly : PolyAt c ms v a rs W
 num : VQ k kr W
structure SnAt (W5 : World) (c : Rat) (ms : List Mo) (k : Rat) (i : SnI) (W : World) : Prop where
 r : Below W5.heap.size W5 W
 p : W.heap[i.P]? = some (.cells #[.bool i.q.1, .slice i.q.2.1.1 i.q.2.1.2.1 i.q.2.1.2.2, .slice i.q.2.2.1 i.q.2.2.2.1 i.q.2.2.2.2, .slice i.a i.rs.length i.cp] 30 (0, 0))
 q : W.heap[i.Q]? = some (.cells #[.bool i.k.1, .slice i.k.2.1.1 i.k.2.1.2.1 i.k.2.1.2.2, .slice i.k.2.2.1 i.k.2.2.2.1 i.k.2.2.2.2] 27 (0, 0))
 poly : PolyAt c ms i.q i.a i.rs W
 num : VQ k i.k W
section
variable {W5 W : World} {c kq : Rat} {ms : List Mo} {P Q b : Nat} {s t : Bool} {z1 z2 y1 y2 a : Option Addr} {m1 k1 m2 k2 n1 j1 n2 j2 cp : Nat} {rs : List RM}
end
end Go.Proofs.YtpjeecahaeaajaaGreatDoor
