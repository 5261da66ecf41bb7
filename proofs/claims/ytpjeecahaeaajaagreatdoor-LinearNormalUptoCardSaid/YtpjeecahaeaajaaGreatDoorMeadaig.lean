/- By program out of: LnSpkW. -/
import Derived.Test.YtpjeecahaeaajaaGreatDoorMocjmoc
import Derived.Test.YtpjeecahaeaajaaGreatDoorMamhhie
import Derived.Test.YtpjeecahaeaajaaGreatDoorMnhlaap
set_option linter.unusedVariables false
set_option linter.unusedSimpArgs false
namespace Go.Proofs.YtpjeecahaeaajaaGreatDoor
open Go.RowKit Rep Ln
theorem text_vq {q : Rat} {s : Bool} {z1 z2 : Option Addr} {m1 k1 m2 k2 : Nat} {W : World} (h : VQ q (s, (z1, m1, k1), (z2, m2, k2)) W) (hs : szQ q ≤ 400) : Calls Tryz.prog 27 #[.agg #[.bool s, .slice z1 m1 k1, .slice z2 m2 k2]] W (GivesTx (textQ q) W) := by
 obtain ⟨h0, h1, h2, h3⟩ := h
 dsimp only at h0 h1 h2 h3
 subst h0 h1 h2
 exact Text_q h3 (by omega)
theorem poly_left {c : Rat} {ms : List Mo} {v : RawR} {a : Option Addr} {rs : List RM} {W : World} (h : PolyAt (leftQ false c) (leftM false ms) v a rs W) : PolyAt c ms v a rs W := h
structure Sp (b : Nat) (W6 : World) (P Q : Option Nat) (V : World → Prop) (W : World) : Prop where
 r : BR b 2 false W6 W
 p : ∀ g, P = some g → W6.heap.size ≤ g ∧ W.heap[g]? = some (.cells #[.bool false, .slice none 0 0, .slice none 0 0, .slice none 0 0] 30 (0, 0))
 q : ∀ g, Q = some g → W6.heap.size ≤ g ∧ W.heap[g]? = some (.cells #[.bool false, .slice none 0 0, .slice none 0 0] 27 (0, 0))
 v : ∀ W', BR b 2 false W W' → V W'
section
variable {b : Nat} {W6 W W' : World} {P Q : Option Nat} {V V' : World → Prop}
theorem Sp.step (h : Sp b W6 P Q V W) (hb : b < W6.heap.size) (k : BR b 2 false W W') (v : ∀ X, BR b 2 false W' X → V' X) : Sp b W6 P Q V' W' :=
 ⟨h.r.trans k, fun g e => ⟨(h.p g e).1, k.block (h.p g e).2 (by have := (h.p g e).1; omega)⟩, fun g e => ⟨(h.q g e).1, k.block (h.q g e).2 (by have := (h.q g e).1; omega)⟩, v⟩
theorem Sp.now (h : Sp b W6 P Q V W) : V W := h.v _ h.r.self
theorem Sp.allocP (h : Sp b W6 none Q V W) (hb : b < W6.heap.size) : Sp b W6 (some W.heap.size) Q V (W.alloc (.cells #[.bool false, .slice none 0 0, .slice none 0 0, .slice none 0 0] 30)) := by
 have k := h.r.self.kept ((Below.refl W.heap.size W).alloc (Nat.le_refl _) (.cells #[.bool false, .slice none 0 0, .slice none 0 0, .slice none 0 0] 30))
 have hs := h.step hb k (fun X hX => h.v X (k.trans hX))
 exact ⟨hs.r, fun g e => by cases e; exact ⟨h.r.size, heap_alloc_new W _⟩, hs.q, hs.v⟩
theorem Sp.allocQ (h : Sp b W6 P none V W) (hb : b < W6.heap.size) : Sp b W6 P (some W.heap.size) V (W.alloc (.cells #[.bool false, .slice none 0 0, .slice none 0 0] 27)) := by
 have k := h.r.self.kept ((Below.refl W.heap.size W).alloc (Nat.le_refl _) (.cells #[.bool false, .slice none 0 0, .slice none 0 0] 27))
 have hs := h.step hb k (fun X hX => h.v X (k.trans hX))
 exact ⟨hs.r, hs.p, fun g e => by cases e; exact ⟨h.r.size, heap_alloc_new W _⟩, hs.v⟩
theorem sp_of (h : Sp b W6 P Q (fun _ => True) W) (hb : b < W6.heap.size) : Calls Tryz.prog 21 #[.int .i64 (-1)] W (fun e W' => ∃ s z1 m1 k1 z2 m2 k2, e = .returned (.agg #[.bool s, .slice z1 m1 k1, .slice z2 m2 k2]) ∧ Hid (Sp b W6 P Q (VQ (qI (-1)) (s, (z1, m1, k1), (z2, m2, k2))) W')) :=
 (ofL (-1) (by omega) (by omega) W).mono fun e W' hg => by
  obtain ⟨s, z1, m1, k1, z2, m2, k2, rfl, h1, h2⟩ := hg
  have k := h.r.self.kept h1.out
  exact ⟨_, _, _, _, _, _, _, rfl, Lib.hid (h.step hb k fun X hX => h2.out.benchL k.bench hX.g)⟩
theorem sp_one {r : RawR} (h : Sp b W6 P Q (VQ (qI (-1)) r) W) (hb : b < W6.heap.size) : Calls Tryz.prog 20 #[.int .i64 1] W (fun e W' => ∃ a d, e = .returned (.agg #[.bool false, .slice none 0 0, .slice none 0 0, .slice a 1 1]) ∧ Hid (Sp b W6 P Q (fun X => VQ (qI (-1)) r X ∧ PolyAt 0 [((1 : Int), (1 : Rat))] (false, (none, 0, 0), (none, 0, 0)) a [d] X) W')) :=
 (Of12_any (w := W) (v := 1)).mono fun e W' hg => by
  obtain ⟨a, d, rfl, h1, h2⟩ := hg
  have k := h.r.self.kept h1.out
  exact ⟨_, _, rfl, Lib.hid (h.step hb k fun X hX => ⟨h.v X (k.trans hX), h2.out.bench k.bench hX⟩)⟩
theorem sp_add {t s : Bool} {y1 y2 z1 z2 a a1 : Option Addr} {n1 j1 n2 j2 m1 k1 m2 k2 n cp : Nat} {d : RM} {rs : List RM} (h : Sp b W6 P Q (fun X => VQ (qI (-1)) (t, (y1, n1, j1), (y2, n2, j2)) X ∧ PolyAt 0 [((1 : Int), (1 : Rat))] (false, (none, 0, 0), (none, 0, 0)) a [d] X) W) (hb : b < W6.heap.size)
    (hp : PolyAt (leftQ false 3) (leftM false [((0 : Int), (2 : Rat))]) (s, (z1, m1, k1), (z2, m2, k2)) a1 rs W6 ∧ Bench W6 b 2 false) (hn : rs.length = n) :
    Calls Tryz.prog 16 #[.pointer (some ⟨b, 0, none⟩), .agg #[.bool s, .slice z1 m1 k1, .slice z2 m2 k2, .slice a1 n cp], .agg #[.bool t, .slice y1 n1 j1, .slice y2 n2 j2], .agg #[.bool false, .slice none 0 0, .slice none 0 0, .slice a 1 1]] W (fun e W' => ∃ s' z1' m1' k1' z2' m2' k2' a' cp' rs', e = .returned (.agg #[.bool s', .slice z1' m1' k1', .slice z2' m2' k2', .slice a' (List.length rs') cp']) ∧ Hid (Sp b W6 P Q (PolyAt 3 [((0 : Int), (2 : Rat)), ((1 : Int), (-1 : Rat))] (s', (z1', m1', k1'), (z2', m2', k2')) a' rs') W')) := by
 subst hn
 refine (spk_add2 (cp := cp) h.r.bench h.r.tab ((poly_left hp.1).bench hp.2 h.r) h.now.1 h.now.2).mono fun e W' hg => ?_
 obtain ⟨s', z1', m1', k1', z2', m2', k2', a', cp', rs', rfl, h1, h2, -, -, -⟩ := hg
 exact ⟨_, _, _, _, _, _, _, _, _, _, rfl, Lib.hid (h.step hb h1.out fun X hX => (poly_left h2.out).bench h1.out.bench hX)⟩
theorem sp_norm {s : Bool} {z1 z2 a1 : Option Addr} {m1 k1 m2 k2 cp : Nat} {rs : List RM} (h : Sp b W6 P Q (PolyAt 3 [((0 : Int), (2 : Rat)), ((1 : Int), (-1 : Rat))] (s, (z1, m1, k1), (z2, m2, k2)) a1 rs) W) (hb : b < W6.heap.size) :
    Calls Tryz.prog 26 #[.pointer (some ⟨b, 0, none⟩), .agg #[.bool s, .slice z1 m1 k1, .slice z2 m2 k2, .slice a1 rs.length cp]] W (fun e W' => ∃ s' z1' m1' k1' z2' m2' k2' a' cp' rs' t y1 n1 j1 y2 n2 j2, e = .returned (.tuple #[.agg #[.bool s', .slice z1' m1' k1', .slice z2' m2' k2', .slice a' (List.length rs') cp'], .agg #[.bool t, .slice y1 n1 j1, .slice y2 n2 j2]]) ∧
     Hid (Sp b W6 P Q (fun X => PolyAt ((1 / (2 : Rat)) * 0) [((0 : Int), (1 : Rat)), ((1 : Int), (-1 / 2 : Rat))] (s', (z1', m1', k1'), (z2', m2', k2')) a' rs' X ∧ VQ 2 (t, (y1, n1, j1), (y2, n2, j2)) X) W')) := by
 refine (spk_norm (cp := cp) h.r.bench h.r.tab h.now).mono fun e W' hg => ?_
 obtain ⟨s', z1', m1', k1', z2', m2', k2', a', cp', rs', t, y1, n1, j1, y2, n2, j2, rfl, h1, h2, h3⟩ := hg
 exact ⟨_, _, _, _, _, _, _, _, _, _, _, _, _, _, _, _, _, rfl, Lib.hid (h.step hb h1.out fun X hX => ⟨h2.out.bench h1.out.bench hX, h3.out.benchL h1.out.bench hX.g⟩)⟩
end
structure SpkI where
 P : Nat
 Q : Nat
 m : RawR
 oa : Option Addr
 p : RawR
 pa : Option Addr
 pl : Nat
 pc : Nat
 q : RawR
 qa : Option Addr
 qr : List RM
 qc : Nat
 k : RawR
structure SpkAt (W6 : World) (b : Nat) (i : SpkI) (W : World) : Prop where
 r : BR b 2 false W6 W
 bP : W.heap[i.P]? = some (.cells #[.bool i.q.1, .slice i.q.2.1.1 i.q.2.1.2.1 i.q.2.1.2.2, .slice i.q.2.2.1 i.q.2.2.2.1 i.q.2.2.2.2, .slice i.qa i.qr.length i.qc] 30 (0, 0))
 bQ : W.heap[i.Q]? = some (.cells #[.bool i.k.1, .slice i.k.2.1.1 i.k.2.1.2.1 i.k.2.1.2.2, .slice i.k.2.2.1 i.k.2.2.2.1 i.k.2.2.2.2] 27 (0, 0))
 poly : PolyAt ((1 / (2 : Rat)) * 0) [((0 : Int), (1 : Rat)), ((1 : Int), (-1 / 2 : Rat))] i.q i.qa i.qr W
 num : VQ 2 i.k W
structure SpE (W6 : World) (b P Q : Nat) (v : RawR) (a : Option Addr) (rs : List RM) (cp : Nat) (k : RawR) (W : World) : Prop where
 r : BR b 2 false W6 W
 ge : W6.heap.size ≤ Q
 ne : P ≠ Q
 p : W.heap[P]? = some (.cells #[.bool v.1, .slice v.2.1.1 v.2.1.2.1 v.2.1.2.2, .slice v.2.2.1 v.2.2.2.1 v.2.2.2.2, .slice a rs.length cp] 30 (0, 0))
 q : W.heap[Q]? = some (.cells #[.bool false, .slice none 0 0, .slice none 0 0] 27 (0, 0))
 poly : PolyAt ((1 / (2 : Rat)) * 0) [((0 : Int), (1 : Rat)), ((1 : Int), (-1 / 2 : Rat))] v a rs W
 num : VQ 2 k W
theorem sp_stP {W6 W : World} {b P Q : Nat} {s t : Bool} {z1 z2 y1 y2 a : Option Addr} {m1 k1 m2 k2 n1 j1 n2 j2 cp : Nat} {rs : List RM} (h : Sp b W6 (some P) (some Q) (fun X => PolyAt ((1 / (2 : Rat)) * 0) [((0 : Int), (1 : Rat)), ((1 : Int), (-1 / 2 : Rat))] (s, (z1, m1, k1), (z2, m2, k2)) a rs X ∧ VQ 2 (t, (y1, n1, j1), (y2, n2, j2)) X) W) (hT : Tab W6) (hb : b < W6.heap.size) :
    SpE W6 b P Q (s, (z1, m1, k1), (z2, m2, k2)) a rs cp (t, (y1, n1, j1), (y2, n2, j2)) (putL4 W P (.bool s) (.slice z1 m1 k1) (.slice z2 m2 k2) (.slice a rs.length cp)) := by
 obtain ⟨p1, p2⟩ := h.p _ rfl
 obtain ⟨q1, q2⟩ := h.q _ rfl
 have hne : P ≠ Q := by rintro rfl; rw [p2] at q2; simp at q2
 have hg := putL4_grown W P (.bool s) (.slice z1 m1 k1) (.slice z2 m2 k2) (.slice a rs.length cp)
 exact ⟨h.r.setL hT hb p1 _ _ _ _, q1, hne, putL4_block p2 _ _ _ _, Blank.grown (show Blank _ _ from q2) hg (fun e => hne e.symm), h.now.1.past (poly_noI p2) hg, h.now.2.pastL (poly_noI p2).2 hg⟩
theorem spk_end {W6 W : World} {b P Q : Nat} {m pr : RawR} {oa pa : Option Addr} {pl pc : Nat} {s t : Bool} {z1 z2 y1 y2 a : Option Addr} {m1 k1 m2 k2 n1 j1 n2 j2 cp : Nat} {rs : List RM} (h : SpE W6 b P Q (s, (z1, m1, k1), (z2, m2, k2)) a rs cp (t, (y1, n1, j1), (y2, n2, j2)) W) (hT : Tab W6) (hb : b < W6.heap.size) :
    SpkAt W6 b ⟨P, Q, m, oa, pr, pa, pl, pc, (s, (z1, m1, k1), (z2, m2, k2)), a, rs, cp, (t, (y1, n1, j1), (y2, n2, j2))⟩ (set3 W Q t (.slice y1 n1 j1) (.slice y2 n2 j2)) := by
 have hg := set3_grown W Q t (.slice y1 n1 j1) (.slice y2 n2 j2)
 have hB : Blank W Q := h.q
 refine ⟨?_, ?_, set3_block h.q _ _ _, h.poly.past (rat_noI hB) hg, h.num.set3 hB _ _ _⟩
 ·unfold set3
  exact ((h.r.setNew hT hb _ h.ge).setNew hT hb _ h.ge).setNew hT hb _ h.ge
 ·exact (hg.block P (Array.getElem?_eq_some_iff.1 h.p).1 (by simpa using h.ne)).trans h.p
theorem cells_of (w : World) (C : Array Value) (t : TypeId) : (w.alloc (.cells C t)).heap[w.heap.size]? = some (.cells C t (0, 0)) := heap_alloc_new w _
set_option maxRecDepth 100000 in
set_option maxHeartbeats 16000000 in
theorem speaks12 {w : World} (hT : Tab w) : Calls Tryz.prog 7 #[] w (GivesV (.bool true) w) := by
 have HT := Lib.hid hT
 have HN := Lib.hid (new_high 2 w (by omega) (by decide))
 clear hT
 go_enter Tryz.func7, Tryz.ntmps7
 go_wp2_with fail
 refine HN.out.mono ?_
 rintro e w1 ⟨rfl, hw1⟩
 have hal : Below w.heap.size w w1 := by rw [hw1]; exact (Below.refl _ _).alloc (Nat.le_refl _) _
 have hB1 : Bench w1 w.heap.size 2 false := by rw [hw1]; exact heap_alloc_new w _
 have HR1 : Hid (BR w.heap.size 2 false w1 w1) := Lib.hid (BR.refl hB1 (HT.out.kept hal))
 have HAL := Lib.hid hal
 have HO3 := Lib.hid (ofL 3 (by omega) (by omega) w1)
 clear hw1 hB1 hal HN
 go_wp2_with fail
 refine HO3.out.mono ?_
 rintro e w2 ⟨s, z1, m1, k1, z2, m2, k2, rfl, hb2, hv2⟩
 have HR2 := Lib.hid (HR1.out.kept hb2.out)
 have HO2 := Lib.hid (ofL 2 (by omega) (by omega) w2)
 clear hb2 HO3
 go_wp2_with fail
 refine HO2.out.mono ?_
 rintro e w3 ⟨t, y1, n1, j1, y2, n2, j2, rfl, hb3, hv3⟩
 have HV2 := Lib.hid (hv2.out.kept hb3.out)
 have HR3 := Lib.hid (HR2.out.kept hb3.out)
 have HO0 := Lib.hid (Of12_any (w := w3) (v := 0))
 clear hb3 hv2 HO2 HR2
 go_wp2_with fail
 refine HO0.out.mono ?_
 rintro e w4 ⟨a, d, rfl, hb4, hp4⟩
 have HR4 := Lib.hid (HR3.out.kept hb4.out)
 have HA := Lib.hid (spk_add1 HR4.out.bench HR4.out.tab (HV2.out.kept hb4.out) (hv3.out.kept hb4.out) hp4.out)
 clear hb4 hp4 HV2 hv3 HR3 HO0
 go_wp2_with fail
 refine HA.out.mono ?_
 rintro e w5 ⟨s5, b1, f1, h1, b2, f2, h2, a5, cp5, rs5, rfl, hr5, hp5, hl5, hc5, hn5⟩
 obtain ⟨n5, hn5'⟩ : ∃ n, rs5.length = n := ⟨_, rfl⟩
 have HNN := Lib.hid hn5'
 have hal := (Below.refl w5.heap.size w5).alloc (Nat.le_refl _) (.cells #[.bool s5, .slice b1 f1 h1, .slice b2 f2 h2, .slice a5 n5 cp5] 30)
 obtain ⟨W6, hW6⟩ : ∃ W6, W6 = w5.alloc (.cells #[.bool s5, .slice b1 f1 h1, .slice b2 f2 h2, .slice a5 n5 cp5] 30) := ⟨_, rfl⟩
 have hk2 := cells_of w5 #[.bool s5, .slice b1 f1 h1, .slice b2 f2 h2, .slice a5 n5 cp5] 30
 rw [← hW6] at hal hk2
 have HR6 := Lib.hid ((HR4.out.trans hr5.out).kept hal)
 have HP6 := Lib.hid (hp5.out.kept hal)
 have HK2 := Lib.hid hk2
 have HW6 := Lib.hid hW6
 have HR4S : Hid (w.heap.size < w5.heap.size) := Lib.hid (HR4.out.trans hr5.out).bench.lt
 rw [hn5']
 clear hW6 hal hk2 hr5 hp5 hl5 hc5 hn5 hn5' HA HR4
 go_wp2_with fail
 have HLT : Hid (w.heap.size < W6.heap.size) := Lib.hid HR6.out.bench.lt
 have HT6 := Lib.hid HR6.out.tab
 have HP6 := Lib.hid (And.intro HP6.out HR6.out.bench)
 have hI : Hid (Sp w.heap.size W6 none none (fun _ => True) W6.drew) := Lib.hid ⟨HR6.out.self.kept (below_drew W6), by simp, by simp, fun _ _ => trivial⟩
 have HK : Hid (∀ p W, BR w.heap.size 2 p W6 W → ((fun w' => w'.cell? ⟨w5.heap.size, 0, none⟩ = some (.bool s5) ∧ w'.cell? ⟨w5.heap.size, 1, none⟩ = some (.slice b1 f1 h1) ∧ w'.cell? ⟨w5.heap.size, 2, none⟩ = some (.slice b2 f2 h2) ∧ w'.cell? ⟨w5.heap.size, 3, none⟩ = some (.slice a5 n5 cp5)) W)) := Lib.hid fun p W h => by
  obtain ⟨x0, x1, x2, x3, _⟩ := cellsL4 (h.block HK2.out (by have := HR4S.out; omega))
  exact ⟨x0, x1, x2, x3⟩
 rw [← HW6.out]
 refine wp_region_ex (ι := SpkI) (fun i => [(13, .pointer (some ⟨w.heap.size, 0, none⟩)), (14, .pointer (some ⟨w.heap.size, 0, none⟩)), (15, .agg #[.bool s5, .slice b1 f1 h1, .slice b2 f2 h2, .slice a5 n5 cp5]), (16, .agg #[.bool i.m.1, .slice i.m.2.1.1 i.m.2.1.2.1 i.m.2.1.2.2, .slice i.m.2.2.1 i.m.2.2.2.1 i.m.2.2.2.2]), (17, .agg #[.bool false, .slice none 0 0, .slice none 0 0, .slice i.oa 1 1]), (18, .agg #[.bool i.p.1, .slice i.p.2.1.1 i.p.2.1.2.1 i.p.2.1.2.2, .slice i.p.2.2.1 i.p.2.2.2.1 i.p.2.2.2.2, .slice i.pa i.pl i.pc]), (19, .tuple #[.agg #[.bool i.q.1, .slice i.q.2.1.1 i.q.2.1.2.1 i.q.2.1.2.2, .slice i.q.2.2.1 i.q.2.2.2.1 i.q.2.2.2.2, .slice i.qa i.qr.length i.qc], .agg #[.bool i.k.1, .slice i.k.2.1.1 i.k.2.1.2.1 i.k.2.1.2.2, .slice i.k.2.2.1 i.k.2.2.2.1 i.k.2.2.2.2]]), (12, .tuple #[.agg #[.bool i.q.1, .slice i.q.2.1.1 i.q.2.1.2.1 i.q.2.1.2.2, .slice i.q.2.2.1 i.q.2.2.2.1 i.q.2.2.2.2, .slice i.qa i.qr.length i.qc], .agg #[.bool i.k.1, .slice i.k.2.1.1 i.k.2.1.2.1 i.k.2.1.2.2, .slice i.k.2.2.1 i.k.2.2.2.1 i.k.2.2.2.2]]), (20, .agg #[.bool i.q.1, .slice i.q.2.1.1 i.q.2.1.2.1 i.q.2.1.2.2, .slice i.q.2.2.1 i.q.2.2.2.1 i.q.2.2.2.2, .slice i.qa i.qr.length i.qc]), (21, .agg #[.bool i.k.1, .slice i.k.2.1.1 i.k.2.1.2.1 i.k.2.1.2.2, .slice i.k.2.2.1 i.k.2.2.2.1 i.k.2.2.2.2]), (3, .pointer (some ⟨i.P, 0, none⟩)), (4, .pointer (some ⟨i.Q, 0, none⟩))]) (SpkAt W6 w.heap.size) ?reg ?rest
 case rest =>
  rintro ⟨P, Q, ⟨ms, ⟨ma, ml, mc⟩, ⟨mb, mk, me⟩⟩, oa, ⟨ps, ⟨pa, pl, pc⟩, ⟨pb, pk, pe⟩⟩, a9, n9, cp9, ⟨qs, ⟨qa, ql, qc⟩, ⟨qb, qk, qe⟩⟩, a8, rs8, cp8, ⟨ks, ⟨ka, kl, kc⟩, ⟨kb, kk, ke⟩⟩⟩ w8 hS
  simp only [puts, Act.put, zA, zB, zC, zD, zE, zF]
  have hl : rs8.length = 2 := by have := hS.poly.ms.len; simpa using this
  obtain ⟨d, x', g, off, hd0, hx0, hqa, hok, hr⟩ := hS.poly.ms.get (k := 1) (by simp)
  simp at hx0
  subst hx0
  obtain ⟨v, s, y1, n1, j1, y2, n2, j2⟩ := d
  obtain ⟨hv, hq⟩ := hok
  dsimp only [RM.raw] at hv hq hqa
  subst hqa
  have e1 : w8.cell? ⟨g, off + 4 + 1, none⟩ = some (.bool s) := by have := hr 1 _ rfl; simpa using this
  have e2 : w8.cell? ⟨g, off + 4 + 2, none⟩ = some (.slice y1 n1 j1) := by have := hr 2 _ rfl; simpa using this
  have e3 : w8.cell? ⟨g, off + 4 + 3, none⟩ = some (.slice y2 n2 j2) := by have := hr 3 _ rfl; simpa using this
  obtain ⟨q0, q1, q2, q3, _⟩ := cellsL4 hS.bP
  have HT1 := Lib.hid (text_vq hq (by have := spk_s1; omega))
  rw [spk_t1] at HT1
  have HKK : Hid (∀ W', Below w8.heap.size w8 W' → (W'.cell? ⟨Q, 0, none⟩ = some (.bool ks) ∧ W'.cell? ⟨Q, 1, none⟩ = some (.slice ka kl kc) ∧ W'.cell? ⟨Q, 2, none⟩ = some (.slice kb kk ke)) ∧ Calls Tryz.prog 27 #[.agg #[.bool ks, .slice ka kl kc, .slice kb kk ke]] W' (GivesTx ⟨#[50]⟩ W')) := Lib.hid fun W' h => by
   obtain ⟨x0, x1, x2, _⟩ := cells3 (stayL hS.bQ h)
   have ht := text_vq (hS.num.kept h) (by have := spk_s1; omega)
   rw [spk_t2] at ht
   exact ⟨⟨x0, x1, x2⟩, ht⟩
  have HBB : Hid (Below w.heap.size w w8) := Lib.hid (hS.r.below (HR6.out.below HAL.out (Nat.le_refl _) HAL.out.size) (Nat.le_refl _) (by have := HR6.out.size; have := HAL.out.size; omega))
  rw [hl] at q3 ⊢
  dsimp only at q0 q1 q2 q3
  clear hl hd0 hv hq hr hS HK2 HW6 HR4S HLT HT6 HP6 HK HNN HR6 HAL HT HR1
  go_wp2_with fail
  refine HT1.out.mono ?_
  rintro e w9 ⟨rfl, hb9⟩
  obtain ⟨⟨m0, m1, m2⟩, hk⟩ := HKK.out _ hb9
  have HK2 := Lib.hid hk
  have HB9 := Lib.hid (HBB.out.trans (hb9.mono HBB.out.size))
  clear hk hb9 HKK HBB HT1 q0 q1 q2 q3 e1 e2 e3
  go_wp2_with fail
  refine HK2.out.mono ?_
  rintro e w10 ⟨rfl, hb10⟩
  have HE := Lib.hid (GivesV.mk' (v := .bool true) rfl (HB9.out.trans (hb10.mono HB9.out.size)))
  clear hb10 HK2 HB9 m0 m1 m2
  go_wp2_with fail
  go_ret
  exact HE.out
 case reg =>
  obtain ⟨wl, hw0⟩ : ∃ X, X = W6.drew := ⟨_, rfl⟩
  rw [← hw0] at hI
  refine wp_region_held_drew (S := (fun w' => w'.cell? ⟨w5.heap.size, 0, none⟩ = some (.bool s5) ∧ w'.cell? ⟨w5.heap.size, 1, none⟩ = some (.slice b1 f1 h1) ∧ w'.cell? ⟨w5.heap.size, 2, none⟩ = some (.slice b2 f2 h2) ∧ w'.cell? ⟨w5.heap.size, 3, none⟩ = some (.slice a5 n5 cp5))) (by kernel_rfl) ?_ (fun hHeld => ?_)
  rotate_left 1
  rw [← hw0] at hHeld ⊢; clear hw0
  rotate_left 1
  ·rw [← hw0]; exact HK.out _ _ hI.out.r
  refine tkL 0 (v := ?_) ?_ hHeld ?_
  rotate_left 1
  ·intro w' hSw
   (try dsimp only at hSw)
   go_simp
   try with_reducible rfl
  try simp only [Act.put, zA, zB, zC, zD, zE, zF]
  refine tkL 1 (v := ?_) ?_ hHeld ?_
  rotate_left 1
  ·intro w' hSw
   (try dsimp only at hSw)
   go_simp
   try with_reducible rfl
  try simp only [Act.put, zA, zB, zC, zD, zE, zF]
  refine tkL 2 (v := ?_) ?_ hHeld ?_
  rotate_left 1
  ·intro w' hSw
   (try dsimp only at hSw)
   go_simp
   try with_reducible rfl
  try simp only [Act.put, zA, zB, zC, zD, zE, zF]
  refine rdy [3, 10, 11] ?_
  refine AllReadyH.cons (by rfl) (fun K hK => ?_) ?_
  go_simp
  refine (sp_of hI.out HLT.out).mono ?_
  clear hI
  rintro e wl ⟨ms, ma, ml, mc, mb, mk, me, rfl, hI⟩
  refine hK.out _ _ ?_ (fun hHeld => ?_)
  ·exact HK.out _ _ hI.out.r
  clear hK K
  try simp only [Act.put, zA, zB, zC, zD, zE, zF]
  refine rdy [4, 10, 11] ?_
  refine AllReadyH.cons (by rfl) (fun K hK => ?_) ?_
  go_simp
  refine (sp_one hI.out HLT.out).mono ?_
  clear hI
  rintro e wl ⟨oa, od, rfl, hI⟩
  refine hK.out _ _ ?_ (fun hHeld => ?_)
  ·exact HK.out _ _ hI.out.r
  clear hK K
  try simp only [Act.put, zA, zB, zC, zD, zE, zF]
  refine rdy [5, 10, 11] ?_
  refine AllReadyH.cons (by rfl) (fun K hK => ?_) ?_
  go_simp
  refine (sp_add hI.out HLT.out HP6.out HNN.out).mono ?_
  clear hI
  rintro e wl ⟨ps, pa, pl, pc, pb, pk, pe, a9, cp9, rs9, rfl, hI⟩
  refine hK.out _ _ ?_ (fun hHeld => ?_)
  ·exact HK.out _ _ hI.out.r
  clear hK K
  try simp only [Act.put, zA, zB, zC, zD, zE, zF]
  refine rdy [6, 10, 11] ?_
  refine AllReadyH.cons (by rfl) (fun K hK => ?_) ?_
  go_simp
  refine (sp_norm hI.out HLT.out).mono ?_
  clear hI
  rintro e wl ⟨qs, qa, ql, qc, qb, qk, qe, a8, cp8, rs8, ks, ka, kl, kc, kb, kk, ke, rfl, hI⟩
  refine hK.out _ _ ?_ (fun hHeld => ?_)
  ·exact HK.out _ _ hI.out.r
  clear hK K
  try simp only [Act.put, zA, zB, zC, zD, zE, zF]
  refine tkL 7 (v := ?_) ?_ hHeld ?_
  rotate_left 1
  ·intro w' hSw
   (try dsimp only at hSw)
   go_simp
   try with_reducible rfl
  try simp only [Act.put, zA, zB, zC, zD, zE, zF]
  refine tkL 8 (v := ?_) ?_ hHeld ?_
  rotate_left 1
  ·intro w' hSw
   (try dsimp only at hSw)
   go_simp
   try with_reducible rfl
  try simp only [Act.put, zA, zB, zC, zD, zE, zF]
  refine tkL 9 (v := ?_) ?_ hHeld ?_
  rotate_left 1
  ·intro w' hSw
   (try dsimp only at hSw)
   go_simp
   try with_reducible rfl
  try simp only [Act.put, zA, zB, zC, zD, zE, zF]
  refine rdy [10, 11] ?_
  refine AllReadyH.cons (by rfl) (fun K hK => ?_) ?_
  go_simp
  replace hI := Lib.hid (hI.out.allocP HLT.out)
  obtain ⟨wz, hw⟩ : ∃ X, X = wl.alloc (.cells #[.bool false, .slice none 0 0, .slice none 0 0, .slice none 0 0] 30) := ⟨_, rfl⟩
  rw [← hw] at hI ⊢; clear hw; generalize wl.heap.size = P at hI ⊢
  obtain ⟨wl, hw⟩ : ∃ X, X = wz := ⟨_, rfl⟩; rw [← hw] at hI ⊢; clear hw
  refine hK.out _ _ ?_ (fun hHeld => ?_)
  ·exact HK.out _ _ hI.out.r
  clear hK K
  try simp only [Act.put, zA, zB, zC, zD, zE, zF]
  refine rdy [11] ?_
  refine AllReadyH.cons (by rfl) (fun K hK => ?_) AllReadyH.nil
  go_simp
  replace hI := Lib.hid (hI.out.allocQ HLT.out)
  obtain ⟨wz, hw⟩ : ∃ X, X = wl.alloc (.cells #[.bool false, .slice none 0 0, .slice none 0 0] 27) := ⟨_, rfl⟩
  rw [← hw] at hI ⊢; clear hw; generalize wl.heap.size = Q at hI ⊢
  obtain ⟨wl, hw⟩ : ∃ X, X = wz := ⟨_, rfl⟩; rw [← hw] at hI ⊢; clear hw
  refine hK.out _ _ ?_ (fun hHeld => ?_)
  ·exact HK.out _ _ hI.out.r
  clear hK K
  try simp only [Act.put, zA, zB, zC, zD, zE, zF]
  refine ?c4_1; rotate_left 1
  refine AllReadyH.cons (by rfl) (fun K hK => ?_) ?_
  go_simp
  replace hI := Lib.hid (hI.out.allocQ HLT.out)
  obtain ⟨wz, hw⟩ : ∃ X, X = wl.alloc (.cells #[.bool false, .slice none 0 0, .slice none 0 0] 27) := ⟨_, rfl⟩
  rw [← hw] at hI ⊢; clear hw; generalize wl.heap.size = Q at hI ⊢
  obtain ⟨wl, hw⟩ : ∃ X, X = wz := ⟨_, rfl⟩; rw [← hw] at hI ⊢; clear hw
  refine hK.out _ _ ?_ (fun hHeld => ?_)
  ·exact HK.out _ _ hI.out.r
  clear hK K
  try simp only [Act.put, zA, zB, zC, zD, zE, zF]
  refine rdy [10] ?_
  refine AllReadyH.cons (by rfl) (fun K hK => ?_) AllReadyH.nil
  go_simp
  replace hI := Lib.hid (hI.out.allocP HLT.out)
  obtain ⟨wz, hw⟩ : ∃ X, X = wl.alloc (.cells #[.bool false, .slice none 0 0, .slice none 0 0, .slice none 0 0] 30) := ⟨_, rfl⟩
  rw [← hw] at hI ⊢; clear hw; generalize wl.heap.size = P at hI ⊢
  obtain ⟨wl, hw⟩ : ∃ X, X = wz := ⟨_, rfl⟩; rw [← hw] at hI ⊢; clear hw
  refine hK.out _ _ ?_ (fun hHeld => ?_)
  ·exact HK.out _ _ hI.out.r
  clear hK K
  try simp only [Act.put, zA, zB, zC, zD, zE, zF]
  refine ?c4_2; rotate_left 1
  exact AllReadyH.nil
  refine AllReadyH.cons (by rfl) (fun K hK => ?_) ?_
  go_simp
  replace hI := Lib.hid (hI.out.allocP HLT.out)
  obtain ⟨wz, hw⟩ : ∃ X, X = wl.alloc (.cells #[.bool false, .slice none 0 0, .slice none 0 0, .slice none 0 0] 30) := ⟨_, rfl⟩
  rw [← hw] at hI ⊢; clear hw; generalize wl.heap.size = P at hI ⊢
  obtain ⟨wl, hw⟩ : ∃ X, X = wz := ⟨_, rfl⟩; rw [← hw] at hI ⊢; clear hw
  refine hK.out _ _ ?_ (fun hHeld => ?_)
  ·exact HK.out _ _ hI.out.r
  clear hK K
  try simp only [Act.put, zA, zB, zC, zD, zE, zF]
  refine rdy [6, 11] ?_
  refine AllReadyH.cons (by rfl) (fun K hK => ?_) ?_
  go_simp
  refine (sp_norm hI.out HLT.out).mono ?_
  clear hI
  rintro e wl ⟨qs, qa, ql, qc, qb, qk, qe, a8, cp8, rs8, ks, ka, kl, kc, kb, kk, ke, rfl, hI⟩
  refine hK.out _ _ ?_ (fun hHeld => ?_)
  ·exact HK.out _ _ hI.out.r
  clear hK K
  try simp only [Act.put, zA, zB, zC, zD, zE, zF]
  refine tkL 7 (v := ?_) ?_ hHeld ?_
  rotate_left 1
  ·intro w' hSw
   (try dsimp only at hSw)
   go_simp
   try with_reducible rfl
  try simp only [Act.put, zA, zB, zC, zD, zE, zF]
  refine tkL 8 (v := ?_) ?_ hHeld ?_
  rotate_left 1
  ·intro w' hSw
   (try dsimp only at hSw)
   go_simp
   try with_reducible rfl
  try simp only [Act.put, zA, zB, zC, zD, zE, zF]
  refine tkL 9 (v := ?_) ?_ hHeld ?_
  rotate_left 1
  ·intro w' hSw
   (try dsimp only at hSw)
   go_simp
   try with_reducible rfl
  try simp only [Act.put, zA, zB, zC, zD, zE, zF]
  refine rdy [11] ?_
  refine AllReadyH.cons (by rfl) (fun K hK => ?_) AllReadyH.nil
  go_simp
  replace hI := Lib.hid (hI.out.allocQ HLT.out)
  obtain ⟨wz, hw⟩ : ∃ X, X = wl.alloc (.cells #[.bool false, .slice none 0 0, .slice none 0 0] 27) := ⟨_, rfl⟩
  rw [← hw] at hI ⊢; clear hw; generalize wl.heap.size = Q at hI ⊢
  obtain ⟨wl, hw⟩ : ∃ X, X = wz := ⟨_, rfl⟩; rw [← hw] at hI ⊢; clear hw
  refine hK.out _ _ ?_ (fun hHeld => ?_)
  ·exact HK.out _ _ hI.out.r
  clear hK K
  try simp only [Act.put, zA, zB, zC, zD, zE, zF]
  refine ?c4_3; rotate_left 1
  refine AllReadyH.cons (by rfl) (fun K hK => ?_) ?_
  go_simp
  replace hI := Lib.hid (hI.out.allocQ HLT.out)
  obtain ⟨wz, hw⟩ : ∃ X, X = wl.alloc (.cells #[.bool false, .slice none 0 0, .slice none 0 0] 27) := ⟨_, rfl⟩
  rw [← hw] at hI ⊢; clear hw; generalize wl.heap.size = Q at hI ⊢
  obtain ⟨wl, hw⟩ : ∃ X, X = wz := ⟨_, rfl⟩; rw [← hw] at hI ⊢; clear hw
  refine hK.out _ _ ?_ (fun hHeld => ?_)
  ·exact HK.out _ _ hI.out.r
  clear hK K
  try simp only [Act.put, zA, zB, zC, zD, zE, zF]
  refine ?c3_1; rotate_left 1
  exact AllReadyH.nil
  refine AllReadyH.cons (by rfl) (fun K hK => ?_) ?_
  go_simp
  replace hI := Lib.hid (hI.out.allocQ HLT.out)
  obtain ⟨wz, hw⟩ : ∃ X, X = wl.alloc (.cells #[.bool false, .slice none 0 0, .slice none 0 0] 27) := ⟨_, rfl⟩
  rw [← hw] at hI ⊢; clear hw; generalize wl.heap.size = Q at hI ⊢
  obtain ⟨wl, hw⟩ : ∃ X, X = wz := ⟨_, rfl⟩; rw [← hw] at hI ⊢; clear hw
  refine hK.out _ _ ?_ (fun hHeld => ?_)
  ·exact HK.out _ _ hI.out.r
  clear hK K
  try simp only [Act.put, zA, zB, zC, zD, zE, zF]
  refine rdy [6, 10] ?_
  refine AllReadyH.cons (by rfl) (fun K hK => ?_) ?_
  go_simp
  refine (sp_norm hI.out HLT.out).mono ?_
  clear hI
  rintro e wl ⟨qs, qa, ql, qc, qb, qk, qe, a8, cp8, rs8, ks, ka, kl, kc, kb, kk, ke, rfl, hI⟩
  refine hK.out _ _ ?_ (fun hHeld => ?_)
  ·exact HK.out _ _ hI.out.r
  clear hK K
  try simp only [Act.put, zA, zB, zC, zD, zE, zF]
  refine tkL 7 (v := ?_) ?_ hHeld ?_
  rotate_left 1
  ·intro w' hSw
   (try dsimp only at hSw)
   go_simp
   try with_reducible rfl
  try simp only [Act.put, zA, zB, zC, zD, zE, zF]
  refine tkL 8 (v := ?_) ?_ hHeld ?_
  rotate_left 1
  ·intro w' hSw
   (try dsimp only at hSw)
   go_simp
   try with_reducible rfl
  try simp only [Act.put, zA, zB, zC, zD, zE, zF]
  refine tkL 9 (v := ?_) ?_ hHeld ?_
  rotate_left 1
  ·intro w' hSw
   (try dsimp only at hSw)
   go_simp
   try with_reducible rfl
  try simp only [Act.put, zA, zB, zC, zD, zE, zF]
  refine rdy [10] ?_
  refine AllReadyH.cons (by rfl) (fun K hK => ?_) AllReadyH.nil
  go_simp
  replace hI := Lib.hid (hI.out.allocP HLT.out)
  obtain ⟨wz, hw⟩ : ∃ X, X = wl.alloc (.cells #[.bool false, .slice none 0 0, .slice none 0 0, .slice none 0 0] 30) := ⟨_, rfl⟩
  rw [← hw] at hI ⊢; clear hw; generalize wl.heap.size = P at hI ⊢
  obtain ⟨wl, hw⟩ : ∃ X, X = wz := ⟨_, rfl⟩; rw [← hw] at hI ⊢; clear hw
  refine hK.out _ _ ?_ (fun hHeld => ?_)
  ·exact HK.out _ _ hI.out.r
  clear hK K
  try simp only [Act.put, zA, zB, zC, zD, zE, zF]
  refine ?c4_4; rotate_left 1
  refine AllReadyH.cons (by rfl) (fun K hK => ?_) ?_
  go_simp
  replace hI := Lib.hid (hI.out.allocP HLT.out)
  obtain ⟨wz, hw⟩ : ∃ X, X = wl.alloc (.cells #[.bool false, .slice none 0 0, .slice none 0 0, .slice none 0 0] 30) := ⟨_, rfl⟩
  rw [← hw] at hI ⊢; clear hw; generalize wl.heap.size = P at hI ⊢
  obtain ⟨wl, hw⟩ : ∃ X, X = wz := ⟨_, rfl⟩; rw [← hw] at hI ⊢; clear hw
  refine hK.out _ _ ?_ (fun hHeld => ?_)
  ·exact HK.out _ _ hI.out.r
  clear hK K
  try simp only [Act.put, zA, zB, zC, zD, zE, zF]
  refine ?c3_2; rotate_left 1
  exact AllReadyH.nil
  exact AllReadyH.nil
  refine AllReadyH.cons (by rfl) (fun K hK => ?_) ?_
  go_simp
  replace hI := Lib.hid (hI.out.allocP HLT.out)
  obtain ⟨wz, hw⟩ : ∃ X, X = wl.alloc (.cells #[.bool false, .slice none 0 0, .slice none 0 0, .slice none 0 0] 30) := ⟨_, rfl⟩
  rw [← hw] at hI ⊢; clear hw; generalize wl.heap.size = P at hI ⊢
  obtain ⟨wl, hw⟩ : ∃ X, X = wz := ⟨_, rfl⟩; rw [← hw] at hI ⊢; clear hw
  refine hK.out _ _ ?_ (fun hHeld => ?_)
  ·exact HK.out _ _ hI.out.r
  clear hK K
  try simp only [Act.put, zA, zB, zC, zD, zE, zF]
  refine rdy [5, 11] ?_
  refine AllReadyH.cons (by rfl) (fun K hK => ?_) ?_
  go_simp
  refine (sp_add hI.out HLT.out HP6.out HNN.out).mono ?_
  clear hI
  rintro e wl ⟨ps, pa, pl, pc, pb, pk, pe, a9, cp9, rs9, rfl, hI⟩
  refine hK.out _ _ ?_ (fun hHeld => ?_)
  ·exact HK.out _ _ hI.out.r
  clear hK K
  try simp only [Act.put, zA, zB, zC, zD, zE, zF]
  refine rdy [6, 11] ?_
  refine AllReadyH.cons (by rfl) (fun K hK => ?_) ?_
  go_simp
  refine (sp_norm hI.out HLT.out).mono ?_
  clear hI
  rintro e wl ⟨qs, qa, ql, qc, qb, qk, qe, a8, cp8, rs8, ks, ka, kl, kc, kb, kk, ke, rfl, hI⟩
  refine hK.out _ _ ?_ (fun hHeld => ?_)
  ·exact HK.out _ _ hI.out.r
  clear hK K
  try simp only [Act.put, zA, zB, zC, zD, zE, zF]
  refine tkL 7 (v := ?_) ?_ hHeld ?_
  rotate_left 1
  ·intro w' hSw
   (try dsimp only at hSw)
   go_simp
   try with_reducible rfl
  try simp only [Act.put, zA, zB, zC, zD, zE, zF]
  refine tkL 8 (v := ?_) ?_ hHeld ?_
  rotate_left 1
  ·intro w' hSw
   (try dsimp only at hSw)
   go_simp
   try with_reducible rfl
  try simp only [Act.put, zA, zB, zC, zD, zE, zF]
  refine tkL 9 (v := ?_) ?_ hHeld ?_
  rotate_left 1
  ·intro w' hSw
   (try dsimp only at hSw)
   go_simp
   try with_reducible rfl
  try simp only [Act.put, zA, zB, zC, zD, zE, zF]
  refine rdy [11] ?_
  refine AllReadyH.cons (by rfl) (fun K hK => ?_) AllReadyH.nil
  go_simp
  replace hI := Lib.hid (hI.out.allocQ HLT.out)
  obtain ⟨wz, hw⟩ : ∃ X, X = wl.alloc (.cells #[.bool false, .slice none 0 0, .slice none 0 0] 27) := ⟨_, rfl⟩
  rw [← hw] at hI ⊢; clear hw; generalize wl.heap.size = Q at hI ⊢
  obtain ⟨wl, hw⟩ : ∃ X, X = wz := ⟨_, rfl⟩; rw [← hw] at hI ⊢; clear hw
  refine hK.out _ _ ?_ (fun hHeld => ?_)
  ·exact HK.out _ _ hI.out.r
  clear hK K
  try simp only [Act.put, zA, zB, zC, zD, zE, zF]
  refine ?c4_5; rotate_left 1
  refine AllReadyH.cons (by rfl) (fun K hK => ?_) ?_
  go_simp
  replace hI := Lib.hid (hI.out.allocQ HLT.out)
  obtain ⟨wz, hw⟩ : ∃ X, X = wl.alloc (.cells #[.bool false, .slice none 0 0, .slice none 0 0] 27) := ⟨_, rfl⟩
  rw [← hw] at hI ⊢; clear hw; generalize wl.heap.size = Q at hI ⊢
  obtain ⟨wl, hw⟩ : ∃ X, X = wz := ⟨_, rfl⟩; rw [← hw] at hI ⊢; clear hw
  refine hK.out _ _ ?_ (fun hHeld => ?_)
  ·exact HK.out _ _ hI.out.r
  clear hK K
  try simp only [Act.put, zA, zB, zC, zD, zE, zF]
  refine ?c3_3; rotate_left 1
  exact AllReadyH.nil
  refine AllReadyH.cons (by rfl) (fun K hK => ?_) ?_
  go_simp
  replace hI := Lib.hid (hI.out.allocQ HLT.out)
  obtain ⟨wz, hw⟩ : ∃ X, X = wl.alloc (.cells #[.bool false, .slice none 0 0, .slice none 0 0] 27) := ⟨_, rfl⟩
  rw [← hw] at hI ⊢; clear hw; generalize wl.heap.size = Q at hI ⊢
  obtain ⟨wl, hw⟩ : ∃ X, X = wz := ⟨_, rfl⟩; rw [← hw] at hI ⊢; clear hw
  refine hK.out _ _ ?_ (fun hHeld => ?_)
  ·exact HK.out _ _ hI.out.r
  clear hK K
  try simp only [Act.put, zA, zB, zC, zD, zE, zF]
  refine ?c2_1; rotate_left 1
  exact AllReadyH.nil
  refine AllReadyH.cons (by rfl) (fun K hK => ?_) ?_
  go_simp
  replace hI := Lib.hid (hI.out.allocQ HLT.out)
  obtain ⟨wz, hw⟩ : ∃ X, X = wl.alloc (.cells #[.bool false, .slice none 0 0, .slice none 0 0] 27) := ⟨_, rfl⟩
  rw [← hw] at hI ⊢; clear hw; generalize wl.heap.size = Q at hI ⊢
  obtain ⟨wl, hw⟩ : ∃ X, X = wz := ⟨_, rfl⟩; rw [← hw] at hI ⊢; clear hw
  refine hK.out _ _ ?_ (fun hHeld => ?_)
  ·exact HK.out _ _ hI.out.r
  clear hK K
  try simp only [Act.put, zA, zB, zC, zD, zE, zF]
  refine rdy [5, 10] ?_
  refine AllReadyH.cons (by rfl) (fun K hK => ?_) ?_
  go_simp
  refine (sp_add hI.out HLT.out HP6.out HNN.out).mono ?_
  clear hI
  rintro e wl ⟨ps, pa, pl, pc, pb, pk, pe, a9, cp9, rs9, rfl, hI⟩
  refine hK.out _ _ ?_ (fun hHeld => ?_)
  ·exact HK.out _ _ hI.out.r
  clear hK K
  try simp only [Act.put, zA, zB, zC, zD, zE, zF]
  refine rdy [6, 10] ?_
  refine AllReadyH.cons (by rfl) (fun K hK => ?_) ?_
  go_simp
  refine (sp_norm hI.out HLT.out).mono ?_
  clear hI
  rintro e wl ⟨qs, qa, ql, qc, qb, qk, qe, a8, cp8, rs8, ks, ka, kl, kc, kb, kk, ke, rfl, hI⟩
  refine hK.out _ _ ?_ (fun hHeld => ?_)
  ·exact HK.out _ _ hI.out.r
  clear hK K
  try simp only [Act.put, zA, zB, zC, zD, zE, zF]
  refine tkL 7 (v := ?_) ?_ hHeld ?_
  rotate_left 1
  ·intro w' hSw
   (try dsimp only at hSw)
   go_simp
   try with_reducible rfl
  try simp only [Act.put, zA, zB, zC, zD, zE, zF]
  refine tkL 8 (v := ?_) ?_ hHeld ?_
  rotate_left 1
  ·intro w' hSw
   (try dsimp only at hSw)
   go_simp
   try with_reducible rfl
  try simp only [Act.put, zA, zB, zC, zD, zE, zF]
  refine tkL 9 (v := ?_) ?_ hHeld ?_
  rotate_left 1
  ·intro w' hSw
   (try dsimp only at hSw)
   go_simp
   try with_reducible rfl
  try simp only [Act.put, zA, zB, zC, zD, zE, zF]
  refine rdy [10] ?_
  refine AllReadyH.cons (by rfl) (fun K hK => ?_) AllReadyH.nil
  go_simp
  replace hI := Lib.hid (hI.out.allocP HLT.out)
  obtain ⟨wz, hw⟩ : ∃ X, X = wl.alloc (.cells #[.bool false, .slice none 0 0, .slice none 0 0, .slice none 0 0] 30) := ⟨_, rfl⟩
  rw [← hw] at hI ⊢; clear hw; generalize wl.heap.size = P at hI ⊢
  obtain ⟨wl, hw⟩ : ∃ X, X = wz := ⟨_, rfl⟩; rw [← hw] at hI ⊢; clear hw
  refine hK.out _ _ ?_ (fun hHeld => ?_)
  ·exact HK.out _ _ hI.out.r
  clear hK K
  try simp only [Act.put, zA, zB, zC, zD, zE, zF]
  refine ?c4_6; rotate_left 1
  refine AllReadyH.cons (by rfl) (fun K hK => ?_) ?_
  go_simp
  replace hI := Lib.hid (hI.out.allocP HLT.out)
  obtain ⟨wz, hw⟩ : ∃ X, X = wl.alloc (.cells #[.bool false, .slice none 0 0, .slice none 0 0, .slice none 0 0] 30) := ⟨_, rfl⟩
  rw [← hw] at hI ⊢; clear hw; generalize wl.heap.size = P at hI ⊢
  obtain ⟨wl, hw⟩ : ∃ X, X = wz := ⟨_, rfl⟩; rw [← hw] at hI ⊢; clear hw
  refine hK.out _ _ ?_ (fun hHeld => ?_)
  ·exact HK.out _ _ hI.out.r
  clear hK K
  try simp only [Act.put, zA, zB, zC, zD, zE, zF]
  refine ?c3_4; rotate_left 1
  exact AllReadyH.nil
  refine AllReadyH.cons (by rfl) (fun K hK => ?_) ?_
  go_simp
  replace hI := Lib.hid (hI.out.allocP HLT.out)
  obtain ⟨wz, hw⟩ : ∃ X, X = wl.alloc (.cells #[.bool false, .slice none 0 0, .slice none 0 0, .slice none 0 0] 30) := ⟨_, rfl⟩
  rw [← hw] at hI ⊢; clear hw; generalize wl.heap.size = P at hI ⊢
  obtain ⟨wl, hw⟩ : ∃ X, X = wz := ⟨_, rfl⟩; rw [← hw] at hI ⊢; clear hw
  refine hK.out _ _ ?_ (fun hHeld => ?_)
  ·exact HK.out _ _ hI.out.r
  clear hK K
  try simp only [Act.put, zA, zB, zC, zD, zE, zF]
  refine ?c2_2; rotate_left 1
  exact AllReadyH.nil
  exact AllReadyH.nil
  refine AllReadyH.cons (by rfl) (fun K hK => ?_) ?_
  go_simp
  replace hI := Lib.hid (hI.out.allocP HLT.out)
  obtain ⟨wz, hw⟩ : ∃ X, X = wl.alloc (.cells #[.bool false, .slice none 0 0, .slice none 0 0, .slice none 0 0] 30) := ⟨_, rfl⟩
  rw [← hw] at hI ⊢; clear hw; generalize wl.heap.size = P at hI ⊢
  obtain ⟨wl, hw⟩ : ∃ X, X = wz := ⟨_, rfl⟩; rw [← hw] at hI ⊢; clear hw
  refine hK.out _ _ ?_ (fun hHeld => ?_)
  ·exact HK.out _ _ hI.out.r
  clear hK K
  try simp only [Act.put, zA, zB, zC, zD, zE, zF]
  refine rdy [4, 11] ?_
  refine AllReadyH.cons (by rfl) (fun K hK => ?_) ?_
  go_simp
  refine (sp_one hI.out HLT.out).mono ?_
  clear hI
  rintro e wl ⟨oa, od, rfl, hI⟩
  refine hK.out _ _ ?_ (fun hHeld => ?_)
  ·exact HK.out _ _ hI.out.r
  clear hK K
  try simp only [Act.put, zA, zB, zC, zD, zE, zF]
  refine rdy [5, 11] ?_
  refine AllReadyH.cons (by rfl) (fun K hK => ?_) ?_
  go_simp
  refine (sp_add hI.out HLT.out HP6.out HNN.out).mono ?_
  clear hI
  rintro e wl ⟨ps, pa, pl, pc, pb, pk, pe, a9, cp9, rs9, rfl, hI⟩
  refine hK.out _ _ ?_ (fun hHeld => ?_)
  ·exact HK.out _ _ hI.out.r
  clear hK K
  try simp only [Act.put, zA, zB, zC, zD, zE, zF]
  refine rdy [6, 11] ?_
  refine AllReadyH.cons (by rfl) (fun K hK => ?_) ?_
  go_simp
  refine (sp_norm hI.out HLT.out).mono ?_
  clear hI
  rintro e wl ⟨qs, qa, ql, qc, qb, qk, qe, a8, cp8, rs8, ks, ka, kl, kc, kb, kk, ke, rfl, hI⟩
  refine hK.out _ _ ?_ (fun hHeld => ?_)
  ·exact HK.out _ _ hI.out.r
  clear hK K
  try simp only [Act.put, zA, zB, zC, zD, zE, zF]
  refine tkL 7 (v := ?_) ?_ hHeld ?_
  rotate_left 1
  ·intro w' hSw
   (try dsimp only at hSw)
   go_simp
   try with_reducible rfl
  try simp only [Act.put, zA, zB, zC, zD, zE, zF]
  refine tkL 8 (v := ?_) ?_ hHeld ?_
  rotate_left 1
  ·intro w' hSw
   (try dsimp only at hSw)
   go_simp
   try with_reducible rfl
  try simp only [Act.put, zA, zB, zC, zD, zE, zF]
  refine tkL 9 (v := ?_) ?_ hHeld ?_
  rotate_left 1
  ·intro w' hSw
   (try dsimp only at hSw)
   go_simp
   try with_reducible rfl
  try simp only [Act.put, zA, zB, zC, zD, zE, zF]
  refine rdy [11] ?_
  refine AllReadyH.cons (by rfl) (fun K hK => ?_) AllReadyH.nil
  go_simp
  replace hI := Lib.hid (hI.out.allocQ HLT.out)
  obtain ⟨wz, hw⟩ : ∃ X, X = wl.alloc (.cells #[.bool false, .slice none 0 0, .slice none 0 0] 27) := ⟨_, rfl⟩
  rw [← hw] at hI ⊢; clear hw; generalize wl.heap.size = Q at hI ⊢
  obtain ⟨wl, hw⟩ : ∃ X, X = wz := ⟨_, rfl⟩; rw [← hw] at hI ⊢; clear hw
  refine hK.out _ _ ?_ (fun hHeld => ?_)
  ·exact HK.out _ _ hI.out.r
  clear hK K
  try simp only [Act.put, zA, zB, zC, zD, zE, zF]
  refine ?c4_7; rotate_left 1
  refine AllReadyH.cons (by rfl) (fun K hK => ?_) ?_
  go_simp
  replace hI := Lib.hid (hI.out.allocQ HLT.out)
  obtain ⟨wz, hw⟩ : ∃ X, X = wl.alloc (.cells #[.bool false, .slice none 0 0, .slice none 0 0] 27) := ⟨_, rfl⟩
  rw [← hw] at hI ⊢; clear hw; generalize wl.heap.size = Q at hI ⊢
  obtain ⟨wl, hw⟩ : ∃ X, X = wz := ⟨_, rfl⟩; rw [← hw] at hI ⊢; clear hw
  refine hK.out _ _ ?_ (fun hHeld => ?_)
  ·exact HK.out _ _ hI.out.r
  clear hK K
  try simp only [Act.put, zA, zB, zC, zD, zE, zF]
  refine ?c3_5; rotate_left 1
  exact AllReadyH.nil
  refine AllReadyH.cons (by rfl) (fun K hK => ?_) ?_
  go_simp
  replace hI := Lib.hid (hI.out.allocQ HLT.out)
  obtain ⟨wz, hw⟩ : ∃ X, X = wl.alloc (.cells #[.bool false, .slice none 0 0, .slice none 0 0] 27) := ⟨_, rfl⟩
  rw [← hw] at hI ⊢; clear hw; generalize wl.heap.size = Q at hI ⊢
  obtain ⟨wl, hw⟩ : ∃ X, X = wz := ⟨_, rfl⟩; rw [← hw] at hI ⊢; clear hw
  refine hK.out _ _ ?_ (fun hHeld => ?_)
  ·exact HK.out _ _ hI.out.r
  clear hK K
  try simp only [Act.put, zA, zB, zC, zD, zE, zF]
  refine ?c2_3; rotate_left 1
  exact AllReadyH.nil
  refine AllReadyH.cons (by rfl) (fun K hK => ?_) ?_
  go_simp
  replace hI := Lib.hid (hI.out.allocQ HLT.out)
  obtain ⟨wz, hw⟩ : ∃ X, X = wl.alloc (.cells #[.bool false, .slice none 0 0, .slice none 0 0] 27) := ⟨_, rfl⟩
  rw [← hw] at hI ⊢; clear hw; generalize wl.heap.size = Q at hI ⊢
  obtain ⟨wl, hw⟩ : ∃ X, X = wz := ⟨_, rfl⟩; rw [← hw] at hI ⊢; clear hw
  refine hK.out _ _ ?_ (fun hHeld => ?_)
  ·exact HK.out _ _ hI.out.r
  clear hK K
  try simp only [Act.put, zA, zB, zC, zD, zE, zF]
  refine ?c1_1; rotate_left 1
  exact AllReadyH.nil
  refine AllReadyH.cons (by rfl) (fun K hK => ?_) ?_
  go_simp
  replace hI := Lib.hid (hI.out.allocQ HLT.out)
  obtain ⟨wz, hw⟩ : ∃ X, X = wl.alloc (.cells #[.bool false, .slice none 0 0, .slice none 0 0] 27) := ⟨_, rfl⟩
  rw [← hw] at hI ⊢; clear hw; generalize wl.heap.size = Q at hI ⊢
  obtain ⟨wl, hw⟩ : ∃ X, X = wz := ⟨_, rfl⟩; rw [← hw] at hI ⊢; clear hw
  refine hK.out _ _ ?_ (fun hHeld => ?_)
  ·exact HK.out _ _ hI.out.r
  clear hK K
  try simp only [Act.put, zA, zB, zC, zD, zE, zF]
  refine rdy [4, 10] ?_
  refine AllReadyH.cons (by rfl) (fun K hK => ?_) ?_
  go_simp
  refine (sp_one hI.out HLT.out).mono ?_
  clear hI
  rintro e wl ⟨oa, od, rfl, hI⟩
  refine hK.out _ _ ?_ (fun hHeld => ?_)
  ·exact HK.out _ _ hI.out.r
  clear hK K
  try simp only [Act.put, zA, zB, zC, zD, zE, zF]
  refine rdy [5, 10] ?_
  refine AllReadyH.cons (by rfl) (fun K hK => ?_) ?_
  go_simp
  refine (sp_add hI.out HLT.out HP6.out HNN.out).mono ?_
  clear hI
  rintro e wl ⟨ps, pa, pl, pc, pb, pk, pe, a9, cp9, rs9, rfl, hI⟩
  refine hK.out _ _ ?_ (fun hHeld => ?_)
  ·exact HK.out _ _ hI.out.r
  clear hK K
  try simp only [Act.put, zA, zB, zC, zD, zE, zF]
  refine rdy [6, 10] ?_
  refine AllReadyH.cons (by rfl) (fun K hK => ?_) ?_
  go_simp
  refine (sp_norm hI.out HLT.out).mono ?_
  clear hI
  rintro e wl ⟨qs, qa, ql, qc, qb, qk, qe, a8, cp8, rs8, ks, ka, kl, kc, kb, kk, ke, rfl, hI⟩
  refine hK.out _ _ ?_ (fun hHeld => ?_)
  ·exact HK.out _ _ hI.out.r
  clear hK K
  try simp only [Act.put, zA, zB, zC, zD, zE, zF]
  refine tkL 7 (v := ?_) ?_ hHeld ?_
  rotate_left 1
  ·intro w' hSw
   (try dsimp only at hSw)
   go_simp
   try with_reducible rfl
  try simp only [Act.put, zA, zB, zC, zD, zE, zF]
  refine tkL 8 (v := ?_) ?_ hHeld ?_
  rotate_left 1
  ·intro w' hSw
   (try dsimp only at hSw)
   go_simp
   try with_reducible rfl
  try simp only [Act.put, zA, zB, zC, zD, zE, zF]
  refine tkL 9 (v := ?_) ?_ hHeld ?_
  rotate_left 1
  ·intro w' hSw
   (try dsimp only at hSw)
   go_simp
   try with_reducible rfl
  try simp only [Act.put, zA, zB, zC, zD, zE, zF]
  refine rdy [10] ?_
  refine AllReadyH.cons (by rfl) (fun K hK => ?_) AllReadyH.nil
  go_simp
  replace hI := Lib.hid (hI.out.allocP HLT.out)
  obtain ⟨wz, hw⟩ : ∃ X, X = wl.alloc (.cells #[.bool false, .slice none 0 0, .slice none 0 0, .slice none 0 0] 30) := ⟨_, rfl⟩
  rw [← hw] at hI ⊢; clear hw; generalize wl.heap.size = P at hI ⊢
  obtain ⟨wl, hw⟩ : ∃ X, X = wz := ⟨_, rfl⟩; rw [← hw] at hI ⊢; clear hw
  refine hK.out _ _ ?_ (fun hHeld => ?_)
  ·exact HK.out _ _ hI.out.r
  clear hK K
  try simp only [Act.put, zA, zB, zC, zD, zE, zF]
  refine ?c4_8; rotate_left 1
  refine AllReadyH.cons (by rfl) (fun K hK => ?_) ?_
  go_simp
  replace hI := Lib.hid (hI.out.allocP HLT.out)
  obtain ⟨wz, hw⟩ : ∃ X, X = wl.alloc (.cells #[.bool false, .slice none 0 0, .slice none 0 0, .slice none 0 0] 30) := ⟨_, rfl⟩
  rw [← hw] at hI ⊢; clear hw; generalize wl.heap.size = P at hI ⊢
  obtain ⟨wl, hw⟩ : ∃ X, X = wz := ⟨_, rfl⟩; rw [← hw] at hI ⊢; clear hw
  refine hK.out _ _ ?_ (fun hHeld => ?_)
  ·exact HK.out _ _ hI.out.r
  clear hK K
  try simp only [Act.put, zA, zB, zC, zD, zE, zF]
  refine ?c3_6; rotate_left 1
  exact AllReadyH.nil
  refine AllReadyH.cons (by rfl) (fun K hK => ?_) ?_
  go_simp
  replace hI := Lib.hid (hI.out.allocP HLT.out)
  obtain ⟨wz, hw⟩ : ∃ X, X = wl.alloc (.cells #[.bool false, .slice none 0 0, .slice none 0 0, .slice none 0 0] 30) := ⟨_, rfl⟩
  rw [← hw] at hI ⊢; clear hw; generalize wl.heap.size = P at hI ⊢
  obtain ⟨wl, hw⟩ : ∃ X, X = wz := ⟨_, rfl⟩; rw [← hw] at hI ⊢; clear hw
  refine hK.out _ _ ?_ (fun hHeld => ?_)
  ·exact HK.out _ _ hI.out.r
  clear hK K
  try simp only [Act.put, zA, zB, zC, zD, zE, zF]
  refine ?c2_4; rotate_left 1
  exact AllReadyH.nil
  refine AllReadyH.cons (by rfl) (fun K hK => ?_) ?_
  go_simp
  replace hI := Lib.hid (hI.out.allocP HLT.out)
  obtain ⟨wz, hw⟩ : ∃ X, X = wl.alloc (.cells #[.bool false, .slice none 0 0, .slice none 0 0, .slice none 0 0] 30) := ⟨_, rfl⟩
  rw [← hw] at hI ⊢; clear hw; generalize wl.heap.size = P at hI ⊢
  obtain ⟨wl, hw⟩ : ∃ X, X = wz := ⟨_, rfl⟩; rw [← hw] at hI ⊢; clear hw
  refine hK.out _ _ ?_ (fun hHeld => ?_)
  ·exact HK.out _ _ hI.out.r
  clear hK K
  try simp only [Act.put, zA, zB, zC, zD, zE, zF]
  refine ?c1_2; rotate_left 1
  exact AllReadyH.nil
  exact AllReadyH.nil
  refine AllReadyH.cons (by rfl) (fun K hK => ?_) ?_
  go_simp
  replace hI := Lib.hid (hI.out.allocP HLT.out)
  obtain ⟨wz, hw⟩ : ∃ X, X = wl.alloc (.cells #[.bool false, .slice none 0 0, .slice none 0 0, .slice none 0 0] 30) := ⟨_, rfl⟩
  rw [← hw] at hI ⊢; clear hw; generalize wl.heap.size = P at hI ⊢
  obtain ⟨wl, hw⟩ : ∃ X, X = wz := ⟨_, rfl⟩; rw [← hw] at hI ⊢; clear hw
  refine hK.out _ _ ?_ (fun hHeld => ?_)
  ·exact HK.out _ _ hI.out.r
  clear hK K
  try simp only [Act.put, zA, zB, zC, zD, zE, zF]
  refine rdy [3, 11] ?_
  refine AllReadyH.cons (by rfl) (fun K hK => ?_) ?_
  go_simp
  refine (sp_of hI.out HLT.out).mono ?_
  clear hI
  rintro e wl ⟨ms, ma, ml, mc, mb, mk, me, rfl, hI⟩
  refine hK.out _ _ ?_ (fun hHeld => ?_)
  ·exact HK.out _ _ hI.out.r
  clear hK K
  try simp only [Act.put, zA, zB, zC, zD, zE, zF]
  refine rdy [4, 11] ?_
  refine AllReadyH.cons (by rfl) (fun K hK => ?_) ?_
  go_simp
  refine (sp_one hI.out HLT.out).mono ?_
  clear hI
  rintro e wl ⟨oa, od, rfl, hI⟩
  refine hK.out _ _ ?_ (fun hHeld => ?_)
  ·exact HK.out _ _ hI.out.r
  clear hK K
  try simp only [Act.put, zA, zB, zC, zD, zE, zF]
  refine rdy [5, 11] ?_
  refine AllReadyH.cons (by rfl) (fun K hK => ?_) ?_
  go_simp
  refine (sp_add hI.out HLT.out HP6.out HNN.out).mono ?_
  clear hI
  rintro e wl ⟨ps, pa, pl, pc, pb, pk, pe, a9, cp9, rs9, rfl, hI⟩
  refine hK.out _ _ ?_ (fun hHeld => ?_)
  ·exact HK.out _ _ hI.out.r
  clear hK K
  try simp only [Act.put, zA, zB, zC, zD, zE, zF]
  refine rdy [6, 11] ?_
  refine AllReadyH.cons (by rfl) (fun K hK => ?_) ?_
  go_simp
  refine (sp_norm hI.out HLT.out).mono ?_
  clear hI
  rintro e wl ⟨qs, qa, ql, qc, qb, qk, qe, a8, cp8, rs8, ks, ka, kl, kc, kb, kk, ke, rfl, hI⟩
  refine hK.out _ _ ?_ (fun hHeld => ?_)
  ·exact HK.out _ _ hI.out.r
  clear hK K
  try simp only [Act.put, zA, zB, zC, zD, zE, zF]
  refine tkL 7 (v := ?_) ?_ hHeld ?_
  rotate_left 1
  ·intro w' hSw
   (try dsimp only at hSw)
   go_simp
   try with_reducible rfl
  try simp only [Act.put, zA, zB, zC, zD, zE, zF]
  refine tkL 8 (v := ?_) ?_ hHeld ?_
  rotate_left 1
  ·intro w' hSw
   (try dsimp only at hSw)
   go_simp
   try with_reducible rfl
  try simp only [Act.put, zA, zB, zC, zD, zE, zF]
  refine tkL 9 (v := ?_) ?_ hHeld ?_
  rotate_left 1
  ·intro w' hSw
   (try dsimp only at hSw)
   go_simp
   try with_reducible rfl
  try simp only [Act.put, zA, zB, zC, zD, zE, zF]
  refine rdy [11] ?_
  refine AllReadyH.cons (by rfl) (fun K hK => ?_) AllReadyH.nil
  go_simp
  replace hI := Lib.hid (hI.out.allocQ HLT.out)
  obtain ⟨wz, hw⟩ : ∃ X, X = wl.alloc (.cells #[.bool false, .slice none 0 0, .slice none 0 0] 27) := ⟨_, rfl⟩
  rw [← hw] at hI ⊢; clear hw; generalize wl.heap.size = Q at hI ⊢
  obtain ⟨wl, hw⟩ : ∃ X, X = wz := ⟨_, rfl⟩; rw [← hw] at hI ⊢; clear hw
  refine hK.out _ _ ?_ (fun hHeld => ?_)
  ·exact HK.out _ _ hI.out.r
  clear hK K
  try simp only [Act.put, zA, zB, zC, zD, zE, zF]
  refine ?c4_9; rotate_left 1
  refine AllReadyH.cons (by rfl) (fun K hK => ?_) ?_
  go_simp
  replace hI := Lib.hid (hI.out.allocQ HLT.out)
  obtain ⟨wz, hw⟩ : ∃ X, X = wl.alloc (.cells #[.bool false, .slice none 0 0, .slice none 0 0] 27) := ⟨_, rfl⟩
  rw [← hw] at hI ⊢; clear hw; generalize wl.heap.size = Q at hI ⊢
  obtain ⟨wl, hw⟩ : ∃ X, X = wz := ⟨_, rfl⟩; rw [← hw] at hI ⊢; clear hw
  refine hK.out _ _ ?_ (fun hHeld => ?_)
  ·exact HK.out _ _ hI.out.r
  clear hK K
  try simp only [Act.put, zA, zB, zC, zD, zE, zF]
  refine ?c3_7; rotate_left 1
  exact AllReadyH.nil
  refine AllReadyH.cons (by rfl) (fun K hK => ?_) ?_
  go_simp
  replace hI := Lib.hid (hI.out.allocQ HLT.out)
  obtain ⟨wz, hw⟩ : ∃ X, X = wl.alloc (.cells #[.bool false, .slice none 0 0, .slice none 0 0] 27) := ⟨_, rfl⟩
  rw [← hw] at hI ⊢; clear hw; generalize wl.heap.size = Q at hI ⊢
  obtain ⟨wl, hw⟩ : ∃ X, X = wz := ⟨_, rfl⟩; rw [← hw] at hI ⊢; clear hw
  refine hK.out _ _ ?_ (fun hHeld => ?_)
  ·exact HK.out _ _ hI.out.r
  clear hK K
  try simp only [Act.put, zA, zB, zC, zD, zE, zF]
  refine ?c2_5; rotate_left 1
  exact AllReadyH.nil
  refine AllReadyH.cons (by rfl) (fun K hK => ?_) ?_
  go_simp
  replace hI := Lib.hid (hI.out.allocQ HLT.out)
  obtain ⟨wz, hw⟩ : ∃ X, X = wl.alloc (.cells #[.bool false, .slice none 0 0, .slice none 0 0] 27) := ⟨_, rfl⟩
  rw [← hw] at hI ⊢; clear hw; generalize wl.heap.size = Q at hI ⊢
  obtain ⟨wl, hw⟩ : ∃ X, X = wz := ⟨_, rfl⟩; rw [← hw] at hI ⊢; clear hw
  refine hK.out _ _ ?_ (fun hHeld => ?_)
  ·exact HK.out _ _ hI.out.r
  clear hK K
  try simp only [Act.put, zA, zB, zC, zD, zE, zF]
  refine ?c1_3; rotate_left 1
  exact AllReadyH.nil
  refine AllReadyH.cons (by rfl) (fun K hK => ?_) ?_
  go_simp
  replace hI := Lib.hid (hI.out.allocQ HLT.out)
  obtain ⟨wz, hw⟩ : ∃ X, X = wl.alloc (.cells #[.bool false, .slice none 0 0, .slice none 0 0] 27) := ⟨_, rfl⟩
  rw [← hw] at hI ⊢; clear hw; generalize wl.heap.size = Q at hI ⊢
  obtain ⟨wl, hw⟩ : ∃ X, X = wz := ⟨_, rfl⟩; rw [← hw] at hI ⊢; clear hw
  refine hK.out _ _ ?_ (fun hHeld => ?_)
  ·exact HK.out _ _ hI.out.r
  clear hK K
  try simp only [Act.put, zA, zB, zC, zD, zE, zF]
  refine ?c0_1; rotate_left 1
  exact AllReadyH.nil
  refine AllReadyH.cons (by rfl) (fun K hK => ?_) ?_
  go_simp
  replace hI := Lib.hid (hI.out.allocQ HLT.out)
  obtain ⟨wz, hw⟩ : ∃ X, X = wl.alloc (.cells #[.bool false, .slice none 0 0, .slice none 0 0] 27) := ⟨_, rfl⟩
  rw [← hw] at hI ⊢; clear hw; generalize wl.heap.size = Q at hI ⊢
  obtain ⟨wl, hw⟩ : ∃ X, X = wz := ⟨_, rfl⟩; rw [← hw] at hI ⊢; clear hw
  refine hK.out _ _ ?_ (fun hHeld => ?_)
  ·exact HK.out _ _ hI.out.r
  clear hK K
  try simp only [Act.put, zA, zB, zC, zD, zE, zF]
  refine rdy [3, 10] ?_
  refine AllReadyH.cons (by rfl) (fun K hK => ?_) ?_
  go_simp
  refine (sp_of hI.out HLT.out).mono ?_
  clear hI
  rintro e wl ⟨ms, ma, ml, mc, mb, mk, me, rfl, hI⟩
  refine hK.out _ _ ?_ (fun hHeld => ?_)
  ·exact HK.out _ _ hI.out.r
  clear hK K
  try simp only [Act.put, zA, zB, zC, zD, zE, zF]
  refine rdy [4, 10] ?_
  refine AllReadyH.cons (by rfl) (fun K hK => ?_) ?_
  go_simp
  refine (sp_one hI.out HLT.out).mono ?_
  clear hI
  rintro e wl ⟨oa, od, rfl, hI⟩
  refine hK.out _ _ ?_ (fun hHeld => ?_)
  ·exact HK.out _ _ hI.out.r
  clear hK K
  try simp only [Act.put, zA, zB, zC, zD, zE, zF]
  refine rdy [5, 10] ?_
  refine AllReadyH.cons (by rfl) (fun K hK => ?_) ?_
  go_simp
  refine (sp_add hI.out HLT.out HP6.out HNN.out).mono ?_
  clear hI
  rintro e wl ⟨ps, pa, pl, pc, pb, pk, pe, a9, cp9, rs9, rfl, hI⟩
  refine hK.out _ _ ?_ (fun hHeld => ?_)
  ·exact HK.out _ _ hI.out.r
  clear hK K
  try simp only [Act.put, zA, zB, zC, zD, zE, zF]
  refine rdy [6, 10] ?_
  refine AllReadyH.cons (by rfl) (fun K hK => ?_) ?_
  go_simp
  refine (sp_norm hI.out HLT.out).mono ?_
  clear hI
  rintro e wl ⟨qs, qa, ql, qc, qb, qk, qe, a8, cp8, rs8, ks, ka, kl, kc, kb, kk, ke, rfl, hI⟩
  refine hK.out _ _ ?_ (fun hHeld => ?_)
  ·exact HK.out _ _ hI.out.r
  clear hK K
  try simp only [Act.put, zA, zB, zC, zD, zE, zF]
  refine tkL 7 (v := ?_) ?_ hHeld ?_
  rotate_left 1
  ·intro w' hSw
   (try dsimp only at hSw)
   go_simp
   try with_reducible rfl
  try simp only [Act.put, zA, zB, zC, zD, zE, zF]
  refine tkL 8 (v := ?_) ?_ hHeld ?_
  rotate_left 1
  ·intro w' hSw
   (try dsimp only at hSw)
   go_simp
   try with_reducible rfl
  try simp only [Act.put, zA, zB, zC, zD, zE, zF]
  refine tkL 9 (v := ?_) ?_ hHeld ?_
  rotate_left 1
  ·intro w' hSw
   (try dsimp only at hSw)
   go_simp
   try with_reducible rfl
  try simp only [Act.put, zA, zB, zC, zD, zE, zF]
  refine rdy [10] ?_
  refine AllReadyH.cons (by rfl) (fun K hK => ?_) AllReadyH.nil
  go_simp
  replace hI := Lib.hid (hI.out.allocP HLT.out)
  obtain ⟨wz, hw⟩ : ∃ X, X = wl.alloc (.cells #[.bool false, .slice none 0 0, .slice none 0 0, .slice none 0 0] 30) := ⟨_, rfl⟩
  rw [← hw] at hI ⊢; clear hw; generalize wl.heap.size = P at hI ⊢
  obtain ⟨wl, hw⟩ : ∃ X, X = wz := ⟨_, rfl⟩; rw [← hw] at hI ⊢; clear hw
  refine hK.out _ _ ?_ (fun hHeld => ?_)
  ·exact HK.out _ _ hI.out.r
  clear hK K
  try simp only [Act.put, zA, zB, zC, zD, zE, zF]
  refine ?c4_10; rotate_left 1
  refine AllReadyH.cons (by rfl) (fun K hK => ?_) ?_
  go_simp
  replace hI := Lib.hid (hI.out.allocP HLT.out)
  obtain ⟨wz, hw⟩ : ∃ X, X = wl.alloc (.cells #[.bool false, .slice none 0 0, .slice none 0 0, .slice none 0 0] 30) := ⟨_, rfl⟩
  rw [← hw] at hI ⊢; clear hw; generalize wl.heap.size = P at hI ⊢
  obtain ⟨wl, hw⟩ : ∃ X, X = wz := ⟨_, rfl⟩; rw [← hw] at hI ⊢; clear hw
  refine hK.out _ _ ?_ (fun hHeld => ?_)
  ·exact HK.out _ _ hI.out.r
  clear hK K
  try simp only [Act.put, zA, zB, zC, zD, zE, zF]
  refine ?c3_8; rotate_left 1
  exact AllReadyH.nil
  refine AllReadyH.cons (by rfl) (fun K hK => ?_) ?_
  go_simp
  replace hI := Lib.hid (hI.out.allocP HLT.out)
  obtain ⟨wz, hw⟩ : ∃ X, X = wl.alloc (.cells #[.bool false, .slice none 0 0, .slice none 0 0, .slice none 0 0] 30) := ⟨_, rfl⟩
  rw [← hw] at hI ⊢; clear hw; generalize wl.heap.size = P at hI ⊢
  obtain ⟨wl, hw⟩ : ∃ X, X = wz := ⟨_, rfl⟩; rw [← hw] at hI ⊢; clear hw
  refine hK.out _ _ ?_ (fun hHeld => ?_)
  ·exact HK.out _ _ hI.out.r
  clear hK K
  try simp only [Act.put, zA, zB, zC, zD, zE, zF]
  refine ?c2_6; rotate_left 1
  exact AllReadyH.nil
  refine AllReadyH.cons (by rfl) (fun K hK => ?_) ?_
  go_simp
  replace hI := Lib.hid (hI.out.allocP HLT.out)
  obtain ⟨wz, hw⟩ : ∃ X, X = wl.alloc (.cells #[.bool false, .slice none 0 0, .slice none 0 0, .slice none 0 0] 30) := ⟨_, rfl⟩
  rw [← hw] at hI ⊢; clear hw; generalize wl.heap.size = P at hI ⊢
  obtain ⟨wl, hw⟩ : ∃ X, X = wz := ⟨_, rfl⟩; rw [← hw] at hI ⊢; clear hw
  refine hK.out _ _ ?_ (fun hHeld => ?_)
  ·exact HK.out _ _ hI.out.r
  clear hK K
  try simp only [Act.put, zA, zB, zC, zD, zE, zF]
  refine ?c1_4; rotate_left 1
  exact AllReadyH.nil
  refine AllReadyH.cons (by rfl) (fun K hK => ?_) ?_
  go_simp
  replace hI := Lib.hid (hI.out.allocP HLT.out)
  obtain ⟨wz, hw⟩ : ∃ X, X = wl.alloc (.cells #[.bool false, .slice none 0 0, .slice none 0 0, .slice none 0 0] 30) := ⟨_, rfl⟩
  rw [← hw] at hI ⊢; clear hw; generalize wl.heap.size = P at hI ⊢
  obtain ⟨wl, hw⟩ : ∃ X, X = wz := ⟨_, rfl⟩; rw [← hw] at hI ⊢; clear hw
  refine hK.out _ _ ?_ (fun hHeld => ?_)
  ·exact HK.out _ _ hI.out.r
  clear hK K
  try simp only [Act.put, zA, zB, zC, zD, zE, zF]
  refine ?c0_2; rotate_left 1
  exact AllReadyH.nil
  exact AllReadyH.nil
  case c0_1 | c0_2 =>
   refine rdy [3] ?_
   refine AllReadyH.cons (by rfl) (fun K hK => ?_) AllReadyH.nil
   go_simp
   refine (sp_of hI.out HLT.out).mono ?_
   clear hI
   rintro e wl ⟨ms, ma, ml, mc, mb, mk, me, rfl, hI⟩
   refine hK.out _ _ ?_ (fun hHeld => ?_)
   ·exact HK.out _ _ hI.out.r
   clear hK K
   try simp only [Act.put, zA, zB, zC, zD, zE, zF]
   refine rdy [4] ?_
   refine AllReadyH.cons (by rfl) (fun K hK => ?_) AllReadyH.nil
   go_simp
   refine (sp_one hI.out HLT.out).mono ?_
   clear hI
   rintro e wl ⟨oa, od, rfl, hI⟩
   refine hK.out _ _ ?_ (fun hHeld => ?_)
   ·exact HK.out _ _ hI.out.r
   clear hK K
   try simp only [Act.put, zA, zB, zC, zD, zE, zF]
   refine rdy [5] ?_
   refine AllReadyH.cons (by rfl) (fun K hK => ?_) AllReadyH.nil
   go_simp
   refine (sp_add hI.out HLT.out HP6.out HNN.out).mono ?_
   clear hI
   rintro e wl ⟨ps, pa, pl, pc, pb, pk, pe, a9, cp9, rs9, rfl, hI⟩
   refine hK.out _ _ ?_ (fun hHeld => ?_)
   ·exact HK.out _ _ hI.out.r
   clear hK K
   try simp only [Act.put, zA, zB, zC, zD, zE, zF]
   refine rdy [6] ?_
   refine AllReadyH.cons (by rfl) (fun K hK => ?_) AllReadyH.nil
   go_simp
   refine (sp_norm hI.out HLT.out).mono ?_
   clear hI
   rintro e wl ⟨qs, qa, ql, qc, qb, qk, qe, a8, cp8, rs8, ks, ka, kl, kc, kb, kk, ke, rfl, hI⟩
   refine hK.out _ _ ?_ (fun hHeld => ?_)
   ·exact HK.out _ _ hI.out.r
   clear hK K
   try simp only [Act.put, zA, zB, zC, zD, zE, zF]
   refine tkL 7 (v := ?_) ?_ hHeld ?_
   rotate_left 1
   ·intro w' hSw
    (try dsimp only at hSw)
    go_simp
    try with_reducible rfl
   try simp only [Act.put, zA, zB, zC, zD, zE, zF]
   refine tkL 8 (v := ?_) ?_ hHeld ?_
   rotate_left 1
   ·intro w' hSw
    (try dsimp only at hSw)
    go_simp
    try with_reducible rfl
   try simp only [Act.put, zA, zB, zC, zD, zE, zF]
   refine tkL 9 (v := ?_) ?_ hHeld ?_
   rotate_left 1
   ·intro w' hSw
    (try dsimp only at hSw)
    go_simp
    try with_reducible rfl
   try simp only [Act.put, zA, zB, zC, zD, zE, zF]
   refine rdy [12] ?_
   refine AllReadyH.cons (by rfl) (fun K hK => ?_) AllReadyH.nil
   obtain ⟨x0, x1, x2, x3, f0, f1, f2, f3⟩ := cellsL4 (hI.out.p _ rfl).2
   go_simp
   change K _ (putL4 wl P (.bool qs) (.slice qa ql qc) (.slice qb qk qe) (.slice a8 rs8.length cp8))
   clear x0 x1 x2 x3 f0 f1 f2 f3
   have hE := Lib.hid (sp_stP (cp := cp8) hI.out HT6.out HLT.out)
   clear hI
   obtain ⟨wp, hw⟩ : ∃ X, X = putL4 wl P (.bool qs) (.slice qa ql qc) (.slice qb qk qe) (.slice a8 rs8.length cp8) := ⟨_, rfl⟩
   rw [← hw] at hE ⊢
   clear hw
   refine hK.out _ _ ?_ (fun hHeld => ?_)
   ·exact HK.out _ _ hE.out.r
   clear hK K
   try simp only [Act.put, zA, zB, zC, zD, zE, zF]
   refine rdy [13] ?_
   refine AllReadyH.cons (by rfl) (fun K hK => ?_) AllReadyH.nil
   obtain ⟨x0, x1, x2, f0, f1, f2⟩ := cells3 (show Blank _ _ from hE.out.q)
   go_simp
   change K _ (set3 wp Q ks (.slice ka kl kc) (.slice kb kk ke))
   clear x0 x1 x2 f0 f1 f2
   have hF := Lib.hid (spk_end (m := (ms, (ma, ml, mc), (mb, mk, me))) (oa := oa) (pr := (ps, (pa, pl, pc), (pb, pk, pe))) (pa := a9) (pl := rs9.length) (pc := cp9) hE.out HT6.out HLT.out)
   refine hK.out _ _ ?_ (fun hHeld => ?_)
   ·exact HK.out _ _ hF.out.r
   clear hK K
   try simp only [Act.put, zA, zB, zC, zD, zE, zF]
   refine wpAnyH_done (by kernel_rfl) ?_ _
   exact ⟨_, by simp only [puts, Act.put, zA, zB, zC, zD, zE, zF], hF.out⟩
  case c1_1 | c1_2 | c1_3 | c1_4 =>
   refine rdy [4] ?_
   refine AllReadyH.cons (by rfl) (fun K hK => ?_) AllReadyH.nil
   go_simp
   refine (sp_one hI.out HLT.out).mono ?_
   clear hI
   rintro e wl ⟨oa, od, rfl, hI⟩
   refine hK.out _ _ ?_ (fun hHeld => ?_)
   ·exact HK.out _ _ hI.out.r
   clear hK K
   try simp only [Act.put, zA, zB, zC, zD, zE, zF]
   refine rdy [5] ?_
   refine AllReadyH.cons (by rfl) (fun K hK => ?_) AllReadyH.nil
   go_simp
   refine (sp_add hI.out HLT.out HP6.out HNN.out).mono ?_
   clear hI
   rintro e wl ⟨ps, pa, pl, pc, pb, pk, pe, a9, cp9, rs9, rfl, hI⟩
   refine hK.out _ _ ?_ (fun hHeld => ?_)
   ·exact HK.out _ _ hI.out.r
   clear hK K
   try simp only [Act.put, zA, zB, zC, zD, zE, zF]
   refine rdy [6] ?_
   refine AllReadyH.cons (by rfl) (fun K hK => ?_) AllReadyH.nil
   go_simp
   refine (sp_norm hI.out HLT.out).mono ?_
   clear hI
   rintro e wl ⟨qs, qa, ql, qc, qb, qk, qe, a8, cp8, rs8, ks, ka, kl, kc, kb, kk, ke, rfl, hI⟩
   refine hK.out _ _ ?_ (fun hHeld => ?_)
   ·exact HK.out _ _ hI.out.r
   clear hK K
   try simp only [Act.put, zA, zB, zC, zD, zE, zF]
   refine tkL 7 (v := ?_) ?_ hHeld ?_
   rotate_left 1
   ·intro w' hSw
    (try dsimp only at hSw)
    go_simp
    try with_reducible rfl
   try simp only [Act.put, zA, zB, zC, zD, zE, zF]
   refine tkL 8 (v := ?_) ?_ hHeld ?_
   rotate_left 1
   ·intro w' hSw
    (try dsimp only at hSw)
    go_simp
    try with_reducible rfl
   try simp only [Act.put, zA, zB, zC, zD, zE, zF]
   refine tkL 9 (v := ?_) ?_ hHeld ?_
   rotate_left 1
   ·intro w' hSw
    (try dsimp only at hSw)
    go_simp
    try with_reducible rfl
   try simp only [Act.put, zA, zB, zC, zD, zE, zF]
   refine rdy [12] ?_
   refine AllReadyH.cons (by rfl) (fun K hK => ?_) AllReadyH.nil
   obtain ⟨x0, x1, x2, x3, f0, f1, f2, f3⟩ := cellsL4 (hI.out.p _ rfl).2
   go_simp
   change K _ (putL4 wl P (.bool qs) (.slice qa ql qc) (.slice qb qk qe) (.slice a8 rs8.length cp8))
   clear x0 x1 x2 x3 f0 f1 f2 f3
   have hE := Lib.hid (sp_stP (cp := cp8) hI.out HT6.out HLT.out)
   clear hI
   obtain ⟨wp, hw⟩ : ∃ X, X = putL4 wl P (.bool qs) (.slice qa ql qc) (.slice qb qk qe) (.slice a8 rs8.length cp8) := ⟨_, rfl⟩
   rw [← hw] at hE ⊢
   clear hw
   refine hK.out _ _ ?_ (fun hHeld => ?_)
   ·exact HK.out _ _ hE.out.r
   clear hK K
   try simp only [Act.put, zA, zB, zC, zD, zE, zF]
   refine rdy [13] ?_
   refine AllReadyH.cons (by rfl) (fun K hK => ?_) AllReadyH.nil
   obtain ⟨x0, x1, x2, f0, f1, f2⟩ := cells3 (show Blank _ _ from hE.out.q)
   go_simp
   change K _ (set3 wp Q ks (.slice ka kl kc) (.slice kb kk ke))
   clear x0 x1 x2 f0 f1 f2
   have hF := Lib.hid (spk_end (m := (ms, (ma, ml, mc), (mb, mk, me))) (oa := oa) (pr := (ps, (pa, pl, pc), (pb, pk, pe))) (pa := a9) (pl := rs9.length) (pc := cp9) hE.out HT6.out HLT.out)
   refine hK.out _ _ ?_ (fun hHeld => ?_)
   ·exact HK.out _ _ hF.out.r
   clear hK K
   try simp only [Act.put, zA, zB, zC, zD, zE, zF]
   refine wpAnyH_done (by kernel_rfl) ?_ _
   exact ⟨_, by simp only [puts, Act.put, zA, zB, zC, zD, zE, zF], hF.out⟩
  case c2_1 | c2_2 | c2_3 | c2_4 | c2_5 | c2_6 =>
   refine rdy [5] ?_
   refine AllReadyH.cons (by rfl) (fun K hK => ?_) AllReadyH.nil
   go_simp
   refine (sp_add hI.out HLT.out HP6.out HNN.out).mono ?_
   clear hI
   rintro e wl ⟨ps, pa, pl, pc, pb, pk, pe, a9, cp9, rs9, rfl, hI⟩
   refine hK.out _ _ ?_ (fun hHeld => ?_)
   ·exact HK.out _ _ hI.out.r
   clear hK K
   try simp only [Act.put, zA, zB, zC, zD, zE, zF]
   refine rdy [6] ?_
   refine AllReadyH.cons (by rfl) (fun K hK => ?_) AllReadyH.nil
   go_simp
   refine (sp_norm hI.out HLT.out).mono ?_
   clear hI
   rintro e wl ⟨qs, qa, ql, qc, qb, qk, qe, a8, cp8, rs8, ks, ka, kl, kc, kb, kk, ke, rfl, hI⟩
   refine hK.out _ _ ?_ (fun hHeld => ?_)
   ·exact HK.out _ _ hI.out.r
   clear hK K
   try simp only [Act.put, zA, zB, zC, zD, zE, zF]
   refine tkL 7 (v := ?_) ?_ hHeld ?_
   rotate_left 1
   ·intro w' hSw
    (try dsimp only at hSw)
    go_simp
    try with_reducible rfl
   try simp only [Act.put, zA, zB, zC, zD, zE, zF]
   refine tkL 8 (v := ?_) ?_ hHeld ?_
   rotate_left 1
   ·intro w' hSw
    (try dsimp only at hSw)
    go_simp
    try with_reducible rfl
   try simp only [Act.put, zA, zB, zC, zD, zE, zF]
   refine tkL 9 (v := ?_) ?_ hHeld ?_
   rotate_left 1
   ·intro w' hSw
    (try dsimp only at hSw)
    go_simp
    try with_reducible rfl
   try simp only [Act.put, zA, zB, zC, zD, zE, zF]
   refine rdy [12] ?_
   refine AllReadyH.cons (by rfl) (fun K hK => ?_) AllReadyH.nil
   obtain ⟨x0, x1, x2, x3, f0, f1, f2, f3⟩ := cellsL4 (hI.out.p _ rfl).2
   go_simp
   change K _ (putL4 wl P (.bool qs) (.slice qa ql qc) (.slice qb qk qe) (.slice a8 rs8.length cp8))
   clear x0 x1 x2 x3 f0 f1 f2 f3
   have hE := Lib.hid (sp_stP (cp := cp8) hI.out HT6.out HLT.out)
   clear hI
   obtain ⟨wp, hw⟩ : ∃ X, X = putL4 wl P (.bool qs) (.slice qa ql qc) (.slice qb qk qe) (.slice a8 rs8.length cp8) := ⟨_, rfl⟩
   rw [← hw] at hE ⊢
   clear hw
   refine hK.out _ _ ?_ (fun hHeld => ?_)
   ·exact HK.out _ _ hE.out.r
   clear hK K
   try simp only [Act.put, zA, zB, zC, zD, zE, zF]
   refine rdy [13] ?_
   refine AllReadyH.cons (by rfl) (fun K hK => ?_) AllReadyH.nil
   obtain ⟨x0, x1, x2, f0, f1, f2⟩ := cells3 (show Blank _ _ from hE.out.q)
   go_simp
   change K _ (set3 wp Q ks (.slice ka kl kc) (.slice kb kk ke))
   clear x0 x1 x2 f0 f1 f2
   have hF := Lib.hid (spk_end (m := (ms, (ma, ml, mc), (mb, mk, me))) (oa := oa) (pr := (ps, (pa, pl, pc), (pb, pk, pe))) (pa := a9) (pl := rs9.length) (pc := cp9) hE.out HT6.out HLT.out)
   refine hK.out _ _ ?_ (fun hHeld => ?_)
   ·exact HK.out _ _ hF.out.r
   clear hK K
   try simp only [Act.put, zA, zB, zC, zD, zE, zF]
   refine wpAnyH_done (by kernel_rfl) ?_ _
   exact ⟨_, by simp only [puts, Act.put, zA, zB, zC, zD, zE, zF], hF.out⟩
  case c3_1 | c3_2 | c3_3 | c3_4 | c3_5 | c3_6 | c3_7 | c3_8 =>
   refine rdy [6] ?_
   refine AllReadyH.cons (by rfl) (fun K hK => ?_) AllReadyH.nil
   go_simp
   refine (sp_norm hI.out HLT.out).mono ?_
   clear hI
   rintro e wl ⟨qs, qa, ql, qc, qb, qk, qe, a8, cp8, rs8, ks, ka, kl, kc, kb, kk, ke, rfl, hI⟩
   refine hK.out _ _ ?_ (fun hHeld => ?_)
   ·exact HK.out _ _ hI.out.r
   clear hK K
   try simp only [Act.put, zA, zB, zC, zD, zE, zF]
   refine tkL 7 (v := ?_) ?_ hHeld ?_
   rotate_left 1
   ·intro w' hSw
    (try dsimp only at hSw)
    go_simp
    try with_reducible rfl
   try simp only [Act.put, zA, zB, zC, zD, zE, zF]
   refine tkL 8 (v := ?_) ?_ hHeld ?_
   rotate_left 1
   ·intro w' hSw
    (try dsimp only at hSw)
    go_simp
    try with_reducible rfl
   try simp only [Act.put, zA, zB, zC, zD, zE, zF]
   refine tkL 9 (v := ?_) ?_ hHeld ?_
   rotate_left 1
   ·intro w' hSw
    (try dsimp only at hSw)
    go_simp
    try with_reducible rfl
   try simp only [Act.put, zA, zB, zC, zD, zE, zF]
   refine rdy [12] ?_
   refine AllReadyH.cons (by rfl) (fun K hK => ?_) AllReadyH.nil
   obtain ⟨x0, x1, x2, x3, f0, f1, f2, f3⟩ := cellsL4 (hI.out.p _ rfl).2
   go_simp
   change K _ (putL4 wl P (.bool qs) (.slice qa ql qc) (.slice qb qk qe) (.slice a8 rs8.length cp8))
   clear x0 x1 x2 x3 f0 f1 f2 f3
   have hE := Lib.hid (sp_stP (cp := cp8) hI.out HT6.out HLT.out)
   clear hI
   obtain ⟨wp, hw⟩ : ∃ X, X = putL4 wl P (.bool qs) (.slice qa ql qc) (.slice qb qk qe) (.slice a8 rs8.length cp8) := ⟨_, rfl⟩
   rw [← hw] at hE ⊢
   clear hw
   refine hK.out _ _ ?_ (fun hHeld => ?_)
   ·exact HK.out _ _ hE.out.r
   clear hK K
   try simp only [Act.put, zA, zB, zC, zD, zE, zF]
   refine rdy [13] ?_
   refine AllReadyH.cons (by rfl) (fun K hK => ?_) AllReadyH.nil
   obtain ⟨x0, x1, x2, f0, f1, f2⟩ := cells3 (show Blank _ _ from hE.out.q)
   go_simp
   change K _ (set3 wp Q ks (.slice ka kl kc) (.slice kb kk ke))
   clear x0 x1 x2 f0 f1 f2
   have hF := Lib.hid (spk_end (m := (ms, (ma, ml, mc), (mb, mk, me))) (oa := oa) (pr := (ps, (pa, pl, pc), (pb, pk, pe))) (pa := a9) (pl := rs9.length) (pc := cp9) hE.out HT6.out HLT.out)
   refine hK.out _ _ ?_ (fun hHeld => ?_)
   ·exact HK.out _ _ hF.out.r
   clear hK K
   try simp only [Act.put, zA, zB, zC, zD, zE, zF]
   refine wpAnyH_done (by kernel_rfl) ?_ _
   exact ⟨_, by simp only [puts, Act.put, zA, zB, zC, zD, zE, zF], hF.out⟩
  case c4_1 | c4_2 | c4_3 | c4_4 | c4_5 | c4_6 | c4_7 | c4_8 | c4_9 | c4_10 =>
   refine rdy [12] ?_
   refine AllReadyH.cons (by rfl) (fun K hK => ?_) AllReadyH.nil
   obtain ⟨x0, x1, x2, x3, f0, f1, f2, f3⟩ := cellsL4 (hI.out.p _ rfl).2
   go_simp
   change K _ (putL4 wl P (.bool qs) (.slice qa ql qc) (.slice qb qk qe) (.slice a8 rs8.length cp8))
   clear x0 x1 x2 x3 f0 f1 f2 f3
   have hE := Lib.hid (sp_stP (cp := cp8) hI.out HT6.out HLT.out)
   clear hI
   obtain ⟨wp, hw⟩ : ∃ X, X = putL4 wl P (.bool qs) (.slice qa ql qc) (.slice qb qk qe) (.slice a8 rs8.length cp8) := ⟨_, rfl⟩
   rw [← hw] at hE ⊢
   clear hw
   refine hK.out _ _ ?_ (fun hHeld => ?_)
   ·exact HK.out _ _ hE.out.r
   clear hK K
   try simp only [Act.put, zA, zB, zC, zD, zE, zF]
   refine rdy [13] ?_
   refine AllReadyH.cons (by rfl) (fun K hK => ?_) AllReadyH.nil
   obtain ⟨x0, x1, x2, f0, f1, f2⟩ := cells3 (show Blank _ _ from hE.out.q)
   go_simp
   change K _ (set3 wp Q ks (.slice ka kl kc) (.slice kb kk ke))
   clear x0 x1 x2 f0 f1 f2
   have hF := Lib.hid (spk_end (m := (ms, (ma, ml, mc), (mb, mk, me))) (oa := oa) (pr := (ps, (pa, pl, pc), (pb, pk, pe))) (pa := a9) (pl := rs9.length) (pc := cp9) hE.out HT6.out HLT.out)
   refine hK.out _ _ ?_ (fun hHeld => ?_)
   ·exact HK.out _ _ hF.out.r
   clear hK K
   try simp only [Act.put, zA, zB, zC, zD, zE, zF]
   refine wpAnyH_done (by kernel_rfl) ?_ _
   exact ⟨_, by simp only [puts, Act.put, zA, zB, zC, zD, zE, zF], hF.out⟩
end Go.Proofs.YtpjeecahaeaajaaGreatDoor
