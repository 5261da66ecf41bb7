/- By program out of: LnNorm. -/
import Derived.Test.YtpjeecahaeaajaaGreatDoorMcieegh
set_option linter.unusedVariables false
set_option linter.unusedSimpArgs false
namespace Go.Proofs.YtpjeecahaeaajaaGreatDoor
open Go.RowKit Rep Ln
namespace Ln
theorem normal_ref {l : List Mo} (h : Fit l) {k : Rat} (hk : k ≠ 0) : refAdd [] k (scale (1 / k) l) = l :=
  fit_ext (refAdd_fit .nil (scale_fit _ h) k) h fun v => by
    rw [refAdd_coef .nil (scale_fit _ h)]
    unfold refC
    rw [coef_scale _ h]
    simp only [coef]
    have : k * (1 / k) = 1 := by rw [Rat.div_def, Rat.one_mul, Rat.mul_inv_cancel k hk]
    grind
end Ln
theorem fin_nil {w W : World} {b m : Nat} (h : BR b m false w W) :
    GotN b m w 0 [] 0 (.returned (.tuple #[.agg #[.bool false, .slice none 0 0, .slice none 0 0, .slice none 0 0], .agg #[.bool false, .slice none 0 0, .slice none 0 0]])) W :=
 ⟨false, none, 0, 0, none, 0, 0, none, 0, [], false, none, 0, 0, none, 0, 0, rfl, Lib.hid h, Lib.hid (PolyAt.zero _), Lib.hid (VQ.zero _)⟩
set_option maxRecDepth 100000 in
set_option maxHeartbeats 4000000 in
theorem Normal_nil {w : World} {b m : Nat} {ps : Bool} {pa pb : Option Addr} {pl pc pk pe : Nat} {a : Option Addr} {cp : Nat} (hB : Bench w b m false) (hT : Tab w) :
    Calls Tryz.prog 26 #[.pointer (some ⟨b, 0, none⟩), .agg #[.bool ps, .slice pa pl pc, .slice pb pk pe, .slice a 0 cp]] w (GotN b m w 0 [] 0) := by
 obtain ⟨W0, hW0, hB0, b0, b1, b2, hsz⟩ := boxes3 w #[.bool ps, .slice pa pl pc, .slice pb pk pe, .slice a 0 cp] #[.bool false, .slice none 0 0, .slice none 0 0, .slice none 0 0] #[.bool false, .slice none 0 0, .slice none 0 0] 30 30 27
 have hR0 : BR b m false w W0 := (BR.refl hB hT).kept hB0
 obtain ⟨q0, q1, q2, q3, _⟩ := cellsL4 b0
 obtain ⟨r0, r1, r2, r3, n0, n1, n2, n3⟩ := cellsL4 b1
 obtain ⟨s0, s1, s2, m0, m1, m2⟩ := cells3 b2
 have HE := Lib.hid (fin_nil hR0)
 have HC := Lib.hid (And.intro (And.intro r0 (And.intro r1 (And.intro r2 r3))) (And.intro s0 (And.intro s1 s2)))
 have HW0 := Lib.hid hW0
 rw [hW0] at q0 q1 q2 q3 r0 r1 r2 r3 n0 n1 n2 n3 s0 s1 s2 m0 m1 m2
 clear hB hT hR0 hB0 b0 b1 b2 hsz hW0
 go_enter Tryz.func26, Tryz.ntmps26
 go_wp2_with fail
 rw [← HW0.out]
 clear q0 q1 q2 q3 r0 r1 r2 r3 n0 n1 n2 n3 s0 s1 s2 m0 m1 m2
 obtain ⟨⟨q0, q1, q2, q3⟩, r0, r1, r2⟩ := HC.out
 exact bodyPost_ret (v := .tuple #[.agg #[.bool false, .slice none 0 0, .slice none 0 0, .slice none 0 0], .agg #[.bool false, .slice none 0 0, .slice none 0 0]]) (by simp [results, Tryz.results26, go_sem, q0, q1, q2, q3, r0, r1, r2]) rfl HE.out
theorem right_ofL (q : Rat) : rightB (ngQ q) (L (mgQ q)) (L (denN q.den)) = true := by
 have e : qOf (ngQ q) (L (mgQ q)) (L (denN q.den)) = q := by
  unfold qOf
  rw [V_L, V_L]
  have : (if denN q.den = 0 then 1 else denN q.den) = q.den := by
   have := den_pos q
   unfold denN
   by_cases h : q.den = 1
   ·simp [h]
   ·simp [h]; omega
  rw [this, mkQ_self]
 unfold rightB
 rw [e]
 exact decide_eq_true ⟨rfl, rfl, rfl⟩
theorem hand_vq {q : Rat} {s : Bool} {z1 z2 : Option Addr} {m1 k1 m2 k2 : Nat} {W : World} (h : VQ q (s, (z1, m1, k1), (z2, m2, k2)) W) :
    HandR W z1 k1 (L (mgQ q)) z2 k2 (L (denN q.den)) ∧ m1 = (L (mgQ q)).length ∧ m2 = (L (denN q.den)).length ∧ rightB s (L (mgQ q)) (L (denN q.den)) = true := by
 obtain ⟨h0, h1, h2, h3⟩ := h
 dsimp only at h0 h1 h2 h3
 refine ⟨⟨⟨L_lim _, h3.num.1, h3.num.2.1, h3.num.2.2⟩, ⟨L_lim _, h3.den.1, h3.den.2.1, h3.den.2.2⟩⟩, h1, h2, ?_⟩
 rw [h0]
 exact right_ofL q
def hmOf (d : RM) (q : Rat) : HM := ⟨d.v, d.s, d.z1, d.k1, L (mgQ q), d.z2, d.k2, L (denN q.den)⟩
theorem hms_fit : ∀ {rs : List RM} {ms : List Mo} {p : Int}, rs.length = ms.length → (∀ (k : Nat) (d : RM) (m : Mo), rs[k]? = some d → ms[k]? = some m → d.v = m.1 ∧ rightB d.s (L (mgQ m.2)) (L (denN m.2.den)) = true) → Fit ms → (∀ x ∈ ms, p < x.1) → rightMs p (List.zipWith (fun d m => hmOf d m.2) rs ms) = true
 | [], [], _, _, _, _, _ => rfl
 | d :: rs, m :: ms, p, hl, hv, hf, hp => by
  obtain ⟨h1, h2⟩ := hv 0 d m rfl rfl
  have h3 : (L (mgQ m.2)).length ≠ 0 := by
   intro h0
   have h4 : mgQ m.2 = 0 := L_inj ((List.eq_nil_of_length_eq_zero h0).trans L_zero.symm)
   rw [mg_zero] at h4
   exact hf.nz m (by simp) h4
  have ih := hms_fit (p := m.1) (by simpa using hl) (fun k d m h1 h2 => hv (k + 1) d m h1 h2) hf.tail hf.head
  show (decide (p < d.v) && ((hmOf d m.2).right && (decide ((hmOf d m.2).xs.length ≠ 0) && rightMs d.v _))) = true
  simp only [Bool.and_eq_true]
  refine ⟨decide_eq_true (by rw [h1]; exact hp m (by simp)), h2, decide_eq_true h3, ?_⟩
  rw [h1]
  exact ih
 | [], _ :: _, _, hl, _, _, _ => by simp at hl
 | _ :: _, [], _, hl, _, _, _ => by simp at hl
theorem right_poly {w : World} {c : Rat} {ms : List Mo} {s : Bool} {z1 z2 a : Option Addr} {m1 k1 m2 k2 n cp : Nat} {rs : List RM} (hp : PolyAt c ms (s, (z1, m1, k1), (z2, m2, k2)) a rs w) (hf : Fit ms) (h0 : ∀ x ∈ ms, 0 ≤ x.1) (z : szQ c ≤ 100) (zm : ∀ x ∈ ms, szQ x.2 ≤ 100) (hn : ms.length ≤ 100) (e : rs.length = n) :
    Calls Tryz.prog 9 #[.agg #[.bool s, .slice z1 m1 k1, .slice z2 m2 k2, .slice a n cp]] w (GivesV (.bool true) w) := by
 obtain ⟨g1, rfl, rfl, g4⟩ := hand_vq hp.num
 have hlen : (List.zipWith (fun d m => hmOf d m.2) rs ms).length = n := by rw [List.length_zipWith, ← hp.ms.len, e]; simp
 have hat : ∀ (k : Nat) (t : HM), (List.zipWith (fun d m => hmOf d m.2) rs ms)[k]? = some t → ∃ d m, rs[k]? = some d ∧ ms[k]? = some m ∧ hmOf d m.2 = t := fun k t ht => by
  rw [List.getElem?_zipWith] at ht
  cases h1 : rs[k]? with
  | none => rw [h1] at ht; simp at ht
  | some d =>
   cases h2 : ms[k]? with
   | none => rw [h1, h2] at ht; simp at ht
   | some m => rw [h1, h2] at ht; exact ⟨d, m, rfl, rfl, by simpa using ht⟩
 have hq : ∀ (k : Nat) (d : RM) (m : Mo), rs[k]? = some d → ms[k]? = some m → d.v = m.1 ∧ HandR w d.z1 d.k1 (L (mgQ m.2)) d.z2 d.k2 (L (denN m.2.den)) ∧ d.m1 = (L (mgQ m.2)).length ∧ d.m2 = (L (denN m.2.den)).length ∧ rightB d.s (L (mgQ m.2)) (L (denN m.2.den)) = true := fun k d m h1 h2 => by
  obtain ⟨hv, hok⟩ := hp.ms.vals k d m h1 h2
  exact ⟨hv, hand_vq hok⟩
 have hms : HMs w a (List.zipWith (fun d m => hmOf d m.2) rs ms) := by
  refine ⟨?_, fun t ht => ?_⟩
  ·rcases hp.ms.mem with e | ⟨g, off, e, hr⟩
   ·left; rw [e]; simp
   ·refine .inr ⟨g, off, e, fun k t ht => ?_⟩
    obtain ⟨d, m, h1, h2, rfl⟩ := hat k t ht
    obtain ⟨_, _, e1, e2, _⟩ := hq k d m h1 h2
    have := hr k d h1
    unfold RM.cells at this
    rw [e1, e2] at this
    exact this
  ·obtain ⟨k, hk⟩ := List.getElem?_of_mem ht
   obtain ⟨d, m, h1, h2, rfl⟩ := hat k t hk
   have := zm m (List.mem_of_getElem? h2)
   unfold szQ at this
   exact ⟨(hq k d m h1 h2).2.1, by show (L _).length ≤ _; omega, by show (L _).length ≤ _; omega⟩
 unfold szQ at z
 have := RRight_any (w := w) (ps := s) (cp := cp) g1 (by omega) (by omega) hms (by rw [hlen, ← e, hp.ms.len]; omega)
 rw [hlen] at this
 have hr : rightP s (L (mgQ c)) (L (denN c.den)) (List.zipWith (fun d m => hmOf d m.2) rs ms) = true := by
  unfold rightP
  rw [g4, hms_fit hp.ms.len (fun k d m h1 h2 => ⟨(hq k d m h1 h2).1, (hq k d m h1 h2).2.2.2.2⟩) hf (fun x hx => by have := h0 x hx; omega)]
  rfl
 rwa [hr] at this
theorem ov_small {m : Nat} {q : Rat} (h : szQ q ≤ m) : ovQ m q = false := by
 unfold szQ at h
 unfold ovQ rO
 rw [Bool.or_eq_false_iff]
 exact ⟨decide_eq_false (by omega), decide_eq_false (by omega)⟩
def nK : List Mo → Rat
 | [] => 0
 | x :: _ => x.2
def nM : List Mo → List Mo
 | [] => []
 | x :: l => scale (1 / x.2) (x :: l)
def nC (_ : List Mo) : Rat := 0
theorem inv_sz {q : Rat} (h : szQ q ≤ 6) : szQ (1 / q) ≤ 7 := by
 have := @szQ_inv q
 rw [Rat.div_def, Rat.one_mul]
 omega
theorem nM_head {x : Mo} {l : List Mo} (h : x.2 ≠ 0) : nM (x :: l) = (x.1, 1) :: scale (1 / x.2) l := by
 have h1 : (1 / x.2) * x.2 = 1 := by rw [Rat.div_def, Rat.one_mul, Rat.inv_mul_cancel _ h]
 show keep (x.1, (1 / x.2) * x.2) ++ scale (1 / x.2) l = _
 rw [h1]
 unfold keep
 rw [if_neg (by show ¬ ((1 : Rat) = 0); decide)]
 rfl
theorem cell_stay {W W' : World} {g i : Nat} {u : Value} (h : W.cell? ⟨g, i, none⟩ = some u) (hb : Below W.heap.size W W') : W'.cell? ⟨g, i, none⟩ = some u := by
 have hlt := World.block_lt_of_cell? _ _ h
 unfold World.cell? at h ⊢
 rw [hb.block g hlt]
 exact h
theorem nM_sz {ms : List Mo} (h : ∀ x ∈ ms, szQ x.2 ≤ 6) : ∀ x ∈ nM ms, szQ x.2 ≤ 16 := by
 intro x hx
 cases ms with
 | nil => simp [nM] at hx
 | cons y l =>
  have := scale_sz (inv_sz (h y (by simp))) h x hx
  omega
theorem nK_sz {ms : List Mo} (h : ∀ x ∈ ms, szQ x.2 ≤ 6) : szQ (nK ms) ≤ 6 := by
 cases ms with
 | nil => show szQ 0 ≤ 6; rw [szQ_zero]; omega
 | cons y l => exact h y (by simp)
theorem norm_sm {w : World} {b : Nat} {c : Rat} {ms : List Mo} {ps : Bool} {pa pb : Option Addr} {pl pc pk pe : Nat} {a : Option Addr} {cp n : Nat} {rs : List RM} (hB : Bench w b 1000 false) (hT : Tab w)
    (hp : PolyAt c ms (ps, (pa, pl, pc), (pb, pk, pe)) a rs w) (zm : ∀ y ∈ ms, szQ y.2 ≤ 6) (hn : n ≤ 12) (e : rs.length = n) :
    Calls Tryz.prog 26 #[.pointer (some ⟨b, 0, none⟩), .agg #[.bool ps, .slice pa pl pc, .slice pb pk pe, .slice a n cp]] w (GotN b 1000 w (nC ms) (nM ms) (nK ms)) := by
 subst e
 cases ms with
 | nil =>
  have : rs.length = 0 := hp.ms.len
  rw [this]
  exact Normal_nil hB hT
 | cons x l =>
  have h1 := inv_sz (zm x (by simp))
  have := Normal_p (cp := cp) hB hT hp (fun y hy => by have := zm y hy; omega) (by omega) (ov_small (by have := zm x (by simp); omega)) (ov_small (by omega)) (by rw [Rat.mul_zero]; exact ovQ_zero) (by
   unfold scaleO
   rw [List.any_eq_false]
   intro y hy
   have h2 := szQ_mul (1 / x.2) y.2
   have h3 := zm y hy
   rw [ov_small (by omega)]
   simp)
  rw [Rat.mul_zero] at this
  exact this
structure Sn (W5 : World) (B P Q : Option Nat) (V : World → Prop) (W : World) : Prop where
 r : Below W5.heap.size W5 W
 b : ∀ g, B = some g → W5.heap.size ≤ g ∧ Bench W g 1000 false
 p : ∀ g, P = some g → W5.heap.size ≤ g ∧ W.heap[g]? = some (.cells #[.bool false, .slice none 0 0, .slice none 0 0, .slice none 0 0] 30 (0, 0))
 q : ∀ g, Q = some g → W5.heap.size ≤ g ∧ W.heap[g]? = some (.cells #[.bool false, .slice none 0 0, .slice none 0 0] 27 (0, 0))
 v : ∀ W', Below W.heap.size W W' → V W'
section
variable {W5 W W' : World} {B P Q : Option Nat} {V V' : World → Prop}
theorem Sn.step (h : Sn W5 B P Q V W) (k : Below W.heap.size W W') (v : ∀ X, Below W'.heap.size W' X → V' X) : Sn W5 B P Q V' W' :=
 ⟨h.r.trans (k.mono h.r.size), fun g e => ⟨(h.b g e).1, (h.b g e).2.kept k⟩, fun g e => ⟨(h.p g e).1, stayL (h.p g e).2 k⟩, fun g e => ⟨(h.q g e).1, stayL (h.q g e).2 k⟩, v⟩
theorem Sn.allocP (h : Sn W5 B none Q V W) : Sn W5 B (some W.heap.size) Q V (W.alloc (.cells #[.bool false, .slice none 0 0, .slice none 0 0, .slice none 0 0] 30)) := by
 have k := (Below.refl W.heap.size W).alloc (Nat.le_refl _) (.cells #[.bool false, .slice none 0 0, .slice none 0 0, .slice none 0 0] 30)
 have hs := h.step k (fun X hX => h.v X (k.trans (hX.mono k.size)))
 exact ⟨hs.r, hs.b, fun g e => by cases e; exact ⟨h.r.size, heap_alloc_new W _⟩, hs.q, hs.v⟩
theorem Sn.allocQ (h : Sn W5 B P none V W) : Sn W5 B P (some W.heap.size) V (W.alloc (.cells #[.bool false, .slice none 0 0, .slice none 0 0] 27)) := by
 have k := (Below.refl W.heap.size W).alloc (Nat.le_refl _) (.cells #[.bool false, .slice none 0 0, .slice none 0 0] 27)
 have hs := h.step k (fun X hX => h.v X (k.trans (hX.mono k.size)))
 exact ⟨hs.r, hs.b, hs.p, fun g e => by cases e; exact ⟨h.r.size, heap_alloc_new W _⟩, hs.v⟩
theorem sn_new (h : Sn W5 none P Q V W) : Calls Tryz.prog 13 #[.int .i64 1000] W (fun e W' => ∃ b, e = .returned (.pointer (some ⟨b, 0, none⟩)) ∧ Hid (Sn W5 (some b) P Q V W')) :=
 (new_high 1000 W (by omega) (by decide)).mono fun e W' hg => by
  obtain ⟨rfl, rfl⟩ := hg
  have k := (Below.refl W.heap.size W).alloc (Nat.le_refl _) (.cells #[.int .i64 ((1000 : Nat) : Int), .bool false] 70)
  have hs := h.step k (fun X hX => h.v X (k.trans (hX.mono k.size)))
  exact ⟨_, rfl, Lib.hid ⟨hs.r, fun g e => by cases e; exact ⟨h.r.size, heap_alloc_new W _⟩, hs.p, hs.q, hs.v⟩⟩
theorem sn_norm {b : Nat} {c : Rat} {ms : List Mo} {ps : Bool} {pa pb : Option Addr} {pl pc pk pe : Nat} {a : Option Addr} {cp n : Nat} {rs : List RM} (h : Sn W5 (some b) P Q V W) (hp : PolyAt c ms (ps, (pa, pl, pc), (pb, pk, pe)) a rs W5) (hT : Tab W5) (zm : ∀ y ∈ ms, szQ y.2 ≤ 6) (hn : n ≤ 12) (e : rs.length = n) :
    Calls Tryz.prog 26 #[.pointer (some ⟨b, 0, none⟩), .agg #[.bool ps, .slice pa pl pc, .slice pb pk pe, .slice a n cp]] W (fun e W' => ∃ s' z1' m1' k1' z2' m2' k2' a' cp' rs' t y1 n1 j1 y2 n2 j2, e = .returned (.tuple #[.agg #[.bool s', .slice z1' m1' k1', .slice z2' m2' k2', .slice a' (List.length rs') cp'], .agg #[.bool t, .slice y1 n1 j1, .slice y2 n2 j2]]) ∧
     Hid (Sn W5 none P Q (fun X => PolyAt (nC ms) (nM ms) (s', (z1', m1', k1'), (z2', m2', k2')) a' rs' X ∧ VQ (nK ms) (t, (y1, n1, j1), (y2, n2, j2)) X) W')) := by
 obtain ⟨hb1, hb2⟩ := h.b _ rfl
 refine (norm_sm (cp := cp) hb2 (hT.kept h.r) (hp.kept h.r) zm hn e).mono fun e W' hg => ?_
 obtain ⟨s', z1', m1', k1', z2', m2', k2', a', cp', rs', t, y1, n1, j1, y2, n2, j2, rfl, k1, k2, k3⟩ := hg
 have hbel : Below W5.heap.size W5 W' := BR.below k1.out h.r hb1 h.r.size
 have hne : ∀ {g : Nat} {C : Array Value} {t : TypeId}, t ≠ 70 → W.heap[g]? = some (.cells C t (0, 0)) → g ≠ b := fun ht hg e => by
  subst e
  unfold Bench at hb2
  rw [hb2] at hg
  cases hg
  exact ht rfl
 exact ⟨_, _, _, _, _, _, _, _, _, _, _, _, _, _, _, _, _, rfl, Lib.hid ⟨hbel, by simp, fun g e => ⟨(h.p g e).1, k1.out.block (h.p g e).2 (hne (by decide) (h.p g e).2)⟩, fun g e => ⟨(h.q g e).1, k1.out.block (h.q g e).2 (hne (by decide) (h.q g e).2)⟩, fun X hX => ⟨k2.out.kept hX, k3.out.kept hX⟩⟩⟩
end
structure SnI where
 b : Nat
 P : Nat
 Q : Nat
 q : RawR
 a : Option Addr
 rs : List RM
 cp : Nat
 k : RawR
structure SnE (W5 : World) (c : Rat) (ms : List Mo) (k : Rat) (P Q : Nat) (v : RawR) (a : Option Addr) (rs : List RM) (cp : Nat) (kr : RawR) (W : World) : Prop where
 r : Below W5.heap.size W5 W
 ge : W5.heap.size ≤ Q
 p : W.heap[P]? = some (.cells #[.bool v.1, .slice v.2.1.1 v.2.1.2.1 v.2.1.2.2, .slice v.2.2.1 v.2.2.2.1 v.2.2.2.2, .slice a rs.length cp] 30 (0, 0))
 q : W.heap[Q]? = some (.cells #[.bool false, .slice none 0 0, .slice none 0 0] 27 (0, 0))
 poly : PolyAt c ms v a rs W
 num : VQ k kr W
structure SnAt (W5 : World) (c : Rat) (ms : List Mo) (k : Rat) (i : SnI) (W : World) : Prop where
 r : Below W5.heap.size W5 W
 p : W.heap[i.P]? = some (.cells #[.bool i.q.1, .slice i.q.2.1.1 i.q.2.1.2.1 i.q.2.1.2.2, .slice i.q.2.2.1 i.q.2.2.2.1 i.q.2.2.2.2, .slice i.a i.rs.length i.cp] 30 (0, 0))
 q : W.heap[i.Q]? = some (.cells #[.bool i.k.1, .slice i.k.2.1.1 i.k.2.1.2.1 i.k.2.1.2.2, .slice i.k.2.2.1 i.k.2.2.2.1 i.k.2.2.2.2] 27 (0, 0))
 poly : PolyAt c ms i.q i.a i.rs W
 num : VQ k i.k W
section
variable {W5 W : World} {c kq : Rat} {ms : List Mo} {P Q b : Nat} {s t : Bool} {z1 z2 y1 y2 a : Option Addr} {m1 k1 m2 k2 n1 j1 n2 j2 cp : Nat} {rs : List RM}
theorem sn_stP {B : Option Nat} (h : Sn W5 B (some P) (some Q) (fun X => PolyAt c ms (s, (z1, m1, k1), (z2, m2, k2)) a rs X ∧ VQ kq (t, (y1, n1, j1), (y2, n2, j2)) X) W) :
    SnE W5 c ms kq P Q (s, (z1, m1, k1), (z2, m2, k2)) a rs cp (t, (y1, n1, j1), (y2, n2, j2)) (putL4 W P (.bool s) (.slice z1 m1 k1) (.slice z2 m2 k2) (.slice a rs.length cp)) := by
 obtain ⟨p1, p2⟩ := h.p _ rfl
 obtain ⟨q1, q2⟩ := h.q _ rfl
 have hne : P ≠ Q := by rintro rfl; rw [p2] at q2; simp at q2
 have hg := putL4_grown W P (.bool s) (.slice z1 m1 k1) (.slice z2 m2 k2) (.slice a rs.length cp)
 have hv := h.v _ (Below.refl _ _)
 exact ⟨h.r.grown hg h.r.size (fun j hj => by cases hj; exact p1), q1, putL4_block p2 _ _ _ _, Blank.grown (show Blank _ _ from q2) hg (fun e => hne e.symm), hv.1.past (poly_noI p2) hg, hv.2.pastL (poly_noI p2).2 hg⟩
theorem sn_end (h : SnE W5 c ms kq P Q (s, (z1, m1, k1), (z2, m2, k2)) a rs cp (t, (y1, n1, j1), (y2, n2, j2)) W) :
    SnAt W5 c ms kq ⟨b, P, Q, (s, (z1, m1, k1), (z2, m2, k2)), a, rs, cp, (t, (y1, n1, j1), (y2, n2, j2))⟩ (set3 W Q t (.slice y1 n1 j1) (.slice y2 n2 j2)) := by
 have hg := set3_grown W Q t (.slice y1 n1 j1) (.slice y2 n2 j2)
 have hB : Blank W Q := h.q
 have hne : P ≠ Q := by rintro rfl; have := h.p; rw [h.q] at this; simp at this
 exact ⟨h.r.grown hg h.r.size (fun j hj => by cases hj; exact h.ge), (hg.block P (Array.getElem?_eq_some_iff.1 h.p).1 (by simpa using hne)).trans h.p, set3_block h.q _ _ _, h.poly.past (rat_noI hB) hg, h.num.set3 hB _ _ _⟩
end
theorem pols1 {W : World} {g : Nat} {t : TypeId} {ps : Bool} {pa pb pm : Option Addr} {pc pe pn : Nat} {px pd : List Nat} {phs : List HM} (h : W.heap[g]? = some (.cells #[.bool ps, .slice pa px.length pc, .slice pb pd.length pe, .slice pm phs.length pn] t (0, 0))) : Pols W g [(⟨ps, pa, pc, px, pb, pe, pd, pm, pn, phs⟩ : HPo)] := fun k p hk j u hu => by
 rcases k with _ | k
 ·simp at hk; subst hk
  rcases j with _ | _ | _ | _ | j <;> simp [HPo.cells] at hu <;> subst hu <;> simp [World.cell?, h]
 ·simp at hk
theorem sq_val {W5 W : World} {P : Option Nat} {f : FuncId} {args : Array Value} {v : Value} (h : Sq W5 P (fun _ => True) W) (hc : Calls Tryz.prog f args W (GivesV v W)) :
    Calls Tryz.prog f args W (fun e W' => e = .returned v ∧ Hid (Sq W5 P (fun _ => True) W')) :=
 hc.mono fun e W' hg => ⟨hg.1, Lib.hid (h.step hg.2 fun _ _ => trivial)⟩
set_option maxRecDepth 100000 in
set_option maxHeartbeats 16000000 in
theorem norm12_walk {w : World} {ps : Bool} {pa pb pm : Option Addr} {pc pe pn : Nat} {px pd : List Nat} {phs : List HM} (hp : HandPo w (⟨ps, pa, pc, px, pb, pe, pd, pm, pn, phs⟩ : HPo)) (hT : Tab w) :
    Calls Tryz.prog 4 #[.agg #[.bool ps, .slice pa px.length pc, .slice pb pd.length pe, .slice pm phs.length pn]] w (Holds w) := by
 obtain ⟨W0, hW0⟩ : ∃ X, X = w.alloc (.cells #[.bool ps, .slice pa px.length pc, .slice pb pd.length pe, .slice pm phs.length pn] 30) := ⟨_, rfl⟩
 have hB0 : Below w.heap.size w W0 := by rw [hW0]; exact (Below.refl _ _).alloc (Nat.le_refl _) _
 have b0 : W0.heap[w.heap.size]? = some (.cells #[.bool ps, .slice pa px.length pc, .slice pb pd.length pe, .slice pm phs.length pn] 30 (0, 0)) := by rw [hW0]; exact heap_alloc_new w _
 have HSP := Lib.hid (speaks12 (hT.kept hB0))
 have HKX0 : Hid (∀ W, Below W0.heap.size W0 W → (W.cell? ⟨w.heap.size, 0, none⟩ = some (.bool ps) ∧ W.cell? ⟨w.heap.size, 1, none⟩ = some (.slice pa px.length pc) ∧ W.cell? ⟨w.heap.size, 2, none⟩ = some (.slice pb pd.length pe) ∧ W.cell? ⟨w.heap.size, 3, none⟩ = some (.slice pm phs.length pn))) := Lib.hid fun W h => by
  obtain ⟨x0, x1, x2, x3, _⟩ := cellsL4 (stayL b0 h)
  exact ⟨x0, x1, x2, x3⟩
 have HW0 := Lib.hid hW0
 have HB0 := Lib.hid (And.intro hB0 (hT.kept hB0))
 have HP := Lib.hid (hp.kept hB0)
 obtain ⟨p0, p1, p2, p3⟩ := HKX0.out _ (Below.refl _ _)
 rw [hW0] at p0 p1 p2 p3
 clear hW0 hB0 b0 hp hT
 go_enter Tryz.func4, Tryz.ntmps4
 go_wp2_with fail
 rw [← HW0.out]
 refine HSP.out.mono ?_
 rintro e w1 ⟨rfl, hb1⟩
 clear p0 p1 p2 p3
 obtain ⟨p0, p1, p2, p3⟩ := HKX0.out _ hb1
 have hal := (Below.refl w1.heap.size w1).alloc (Nat.le_refl _) (.cells #[.bool ps, .slice pa px.length pc, .slice pb pd.length pe, .slice pm phs.length pn] 30)
 have hb2 := hb1.trans (hal.mono hb1.size)
 have HB2 := Lib.hid hb2
 have HOD := Lib.hid (Odd12_any w1.heap.size 1 [(⟨ps, pa, pc, px, pb, pe, pd, pm, pn, phs⟩ : HPo)] (w1.alloc (.cells #[.bool ps, .slice pa px.length pc, .slice pb pd.length pe, .slice pm phs.length pn] 30)) (pols1 (heap_alloc_new w1 _)) (by
  intro p hp
  simp only [List.mem_cons, List.not_mem_nil, or_false] at hp
  subst hp
  exact HP.out.kept hb2) (by simp) (by simp))
 clear hal hb2 hb1 HSP
 cases hodd : [(⟨ps, pa, pc, px, pb, pe, pd, pm, pn, phs⟩ : HPo)].any oddPo
 case true =>
  rw [hodd] at HOD
  clear hodd
  go_wp2_with fail
  refine HOD.out.mono ?_
  rintro e w2 ⟨rfl, hb⟩
  have HE := Lib.hid (HB0.out.1.trans ((HB2.out.trans (hb.mono HB2.out.size)).mono HB0.out.1.size))
  clear hb HOD p0 p1 p2 p3
  go_wp2_with fail
  go_ret
  exact ⟨rfl, HE.out⟩
 case false =>
 rw [hodd] at HOD
 have o1 : oddPo (⟨ps, pa, pc, px, pb, pe, pd, pm, pn, phs⟩ : HPo) = false := by simpa using hodd
 have HS1 := Lib.hid (not_odd12 HP.out o1)
 clear hodd o1
 go_wp2_with fail
 refine HOD.out.mono ?_
 rintro e w2 ⟨rfl, hb⟩
 have hb2 := HB2.out.trans (hb.mono HB2.out.size)
 obtain ⟨c1, ms, rs1, e1, hp1, f1, z1, zm1, n1, np1, v1⟩ := HS1.out.plain
 have HZ := Lib.hid (And.intro z1 (And.intro zm1 (And.intro n1 (And.intro e1 (And.intro f1 (And.intro np1 v1))))))
 have HP5 : Hid (PolyAt c1 ms (ps, (pa, px.length, pc), (pb, pd.length, pe)) pm rs1 w2 ∧ Tab w2 ∧ (∀ y ∈ ms, szQ y.2 ≤ 6) ∧ phs.length ≤ 12 ∧ rs1.length = phs.length) := Lib.hid ⟨hp1.kept hb2, HB0.out.2.kept hb2, zm1, n1, e1⟩
 have HBW := Lib.hid (HB0.out.1.trans (hb2.mono HB0.out.1.size))
 have HKX : Hid (∀ W, Below w2.heap.size w2 W → (W.cell? ⟨w.heap.size, 0, none⟩ = some (.bool ps) ∧ W.cell? ⟨w.heap.size, 1, none⟩ = some (.slice pa px.length pc) ∧ W.cell? ⟨w.heap.size, 2, none⟩ = some (.slice pb pd.length pe) ∧ W.cell? ⟨w.heap.size, 3, none⟩ = some (.slice pm phs.length pn))) := Lib.hid fun W h => HKX0.out _ (hb2.trans (h.mono hb2.size))
 clear hb hb2 HOD HB2 p0 p1 p2 p3 hp1 z1 zm1 n1 e1 f1 np1 v1 HS1 HP HKX0
 go_wp2_with fail
 refine wp_region_ex (ι := SnI) (fun i => [(11, .pointer (some ⟨i.b, 0, none⟩)), (12, .agg #[.bool ps, .slice pa px.length pc, .slice pb pd.length pe, .slice pm phs.length pn]), (13, .tuple #[.agg #[.bool i.q.1, .slice i.q.2.1.1 i.q.2.1.2.1 i.q.2.1.2.2, .slice i.q.2.2.1 i.q.2.2.2.1 i.q.2.2.2.2, .slice i.a i.rs.length i.cp], .agg #[.bool i.k.1, .slice i.k.2.1.1 i.k.2.1.2.1 i.k.2.1.2.2, .slice i.k.2.2.1 i.k.2.2.2.1 i.k.2.2.2.2]]), (10, .tuple #[.agg #[.bool i.q.1, .slice i.q.2.1.1 i.q.2.1.2.1 i.q.2.1.2.2, .slice i.q.2.2.1 i.q.2.2.2.1 i.q.2.2.2.2, .slice i.a i.rs.length i.cp], .agg #[.bool i.k.1, .slice i.k.2.1.1 i.k.2.1.2.1 i.k.2.1.2.2, .slice i.k.2.2.1 i.k.2.2.2.1 i.k.2.2.2.2]]), (14, .agg #[.bool i.q.1, .slice i.q.2.1.1 i.q.2.1.2.1 i.q.2.1.2.2, .slice i.q.2.2.1 i.q.2.2.2.1 i.q.2.2.2.2, .slice i.a i.rs.length i.cp]), (15, .agg #[.bool i.k.1, .slice i.k.2.1.1 i.k.2.1.2.1 i.k.2.1.2.2, .slice i.k.2.2.1 i.k.2.2.2.1 i.k.2.2.2.2]), (3, .pointer (some ⟨i.P, 0, none⟩)), (4, .pointer (some ⟨i.Q, 0, none⟩))]) (SnAt w2 (nC ms) (nM ms) (nK ms)) ?reg5 ?rest5
 case reg5 =>
  have hI : Hid (Sn w2 none none none (fun _ => True) w2.drew) := Lib.hid ⟨below_drew w2, by simp, by simp, by simp, fun _ _ => trivial⟩
  obtain ⟨wl, hw0⟩ : ∃ X, X = w2.drew := ⟨_, rfl⟩
  rw [← hw0] at hI
  refine wp_region_held_drew (S := (fun w' => w'.cell? ⟨w.heap.size, 0, none⟩ = some (.bool ps) ∧ w'.cell? ⟨w.heap.size, 1, none⟩ = some (.slice pa px.length pc) ∧ w'.cell? ⟨w.heap.size, 2, none⟩ = some (.slice pb pd.length pe) ∧ w'.cell? ⟨w.heap.size, 3, none⟩ = some (.slice pm phs.length pn))) (by kernel_rfl) ?_ (fun hHeld => ?_)
  rotate_left 1
  rw [← hw0] at hHeld ⊢; clear hw0
  rotate_left 1
  ·rw [← hw0]; exact HKX.out _ hI.out.r
  refine tkL 1 (v := ?_) ?_ hHeld ?_
  rotate_left 1
  ·intro w' hSw
   (try dsimp only at hSw)
   go_simp
   try with_reducible rfl
  try simp only [Act.put, zA, zB, zC, zD, zE, zF]
  refine rdy [0, 6, 7] ?_
  refine AllReadyH.cons (by rfl) (fun K hK => ?_) ?_
  go_simp
  refine (sn_new hI.out).mono ?_
  clear hI
  rintro e wl ⟨b, rfl, hI⟩
  refine hK.out _ _ ?_ (fun hHeld => ?_)
  ·exact HKX.out _ hI.out.r
  clear hK K
  try simp only [Act.put, zA, zB, zC, zD, zE, zF]
  refine rdy [2, 6, 7] ?_
  refine AllReadyH.cons (by rfl) (fun K hK => ?_) ?_
  go_simp
  refine (sn_norm (cp := pn) hI.out HP5.out.1 HP5.out.2.1 HP5.out.2.2.1 HP5.out.2.2.2.1 HP5.out.2.2.2.2).mono ?_
  clear hI
  rintro e wl ⟨qs, qa, ql, qc, qb, qk, qe, a8, cp8, rs8, ks, ka, kl, kc, kb, kk, ke, rfl, hI⟩
  refine hK.out _ _ ?_ (fun hHeld => ?_)
  ·exact HKX.out _ hI.out.r
  clear hK K
  try simp only [Act.put, zA, zB, zC, zD, zE, zF]
  refine tkL 3 (v := ?_) ?_ hHeld ?_
  rotate_left 1
  ·intro w' hSw
   (try dsimp only at hSw)
   go_simp
   try with_reducible rfl
  try simp only [Act.put, zA, zB, zC, zD, zE, zF]
  refine tkL 4 (v := ?_) ?_ hHeld ?_
  rotate_left 1
  ·intro w' hSw
   (try dsimp only at hSw)
   go_simp
   try with_reducible rfl
  try simp only [Act.put, zA, zB, zC, zD, zE, zF]
  refine tkL 5 (v := ?_) ?_ hHeld ?_
  rotate_left 1
  ·intro w' hSw
   (try dsimp only at hSw)
   go_simp
   try with_reducible rfl
  try simp only [Act.put, zA, zB, zC, zD, zE, zF]
  refine rdy [6, 7] ?_
  refine AllReadyH.cons (by rfl) (fun K hK => ?_) ?_
  go_simp
  replace hI := Lib.hid hI.out.allocP
  obtain ⟨wz, hw⟩ : ∃ X, X = wl.alloc (.cells #[.bool false, .slice none 0 0, .slice none 0 0, .slice none 0 0] 30) := ⟨_, rfl⟩
  rw [← hw] at hI ⊢; clear hw; generalize wl.heap.size = P at hI ⊢
  obtain ⟨wl, hw⟩ : ∃ X, X = wz := ⟨_, rfl⟩; rw [← hw] at hI ⊢; clear hw
  refine hK.out _ _ ?_ (fun hHeld => ?_)
  ·exact HKX.out _ hI.out.r
  clear hK K
  try simp only [Act.put, zA, zB, zC, zD, zE, zF]
  refine rdy [7] ?_
  refine AllReadyH.cons (by rfl) (fun K hK => ?_) AllReadyH.nil
  go_simp
  replace hI := Lib.hid hI.out.allocQ
  obtain ⟨wz, hw⟩ : ∃ X, X = wl.alloc (.cells #[.bool false, .slice none 0 0, .slice none 0 0] 27) := ⟨_, rfl⟩
  rw [← hw] at hI ⊢; clear hw; generalize wl.heap.size = Q at hI ⊢
  obtain ⟨wl, hw⟩ : ∃ X, X = wz := ⟨_, rfl⟩; rw [← hw] at hI ⊢; clear hw
  refine hK.out _ _ ?_ (fun hHeld => ?_)
  ·exact HKX.out _ hI.out.r
  clear hK K
  try simp only [Act.put, zA, zB, zC, zD, zE, zF]
  refine ?c2_1; rotate_left 1
  refine AllReadyH.cons (by rfl) (fun K hK => ?_) ?_
  go_simp
  replace hI := Lib.hid hI.out.allocQ
  obtain ⟨wz, hw⟩ : ∃ X, X = wl.alloc (.cells #[.bool false, .slice none 0 0, .slice none 0 0] 27) := ⟨_, rfl⟩
  rw [← hw] at hI ⊢; clear hw; generalize wl.heap.size = Q at hI ⊢
  obtain ⟨wl, hw⟩ : ∃ X, X = wz := ⟨_, rfl⟩; rw [← hw] at hI ⊢; clear hw
  refine hK.out _ _ ?_ (fun hHeld => ?_)
  ·exact HKX.out _ hI.out.r
  clear hK K
  try simp only [Act.put, zA, zB, zC, zD, zE, zF]
  refine rdy [6] ?_
  refine AllReadyH.cons (by rfl) (fun K hK => ?_) AllReadyH.nil
  go_simp
  replace hI := Lib.hid hI.out.allocP
  obtain ⟨wz, hw⟩ : ∃ X, X = wl.alloc (.cells #[.bool false, .slice none 0 0, .slice none 0 0, .slice none 0 0] 30) := ⟨_, rfl⟩
  rw [← hw] at hI ⊢; clear hw; generalize wl.heap.size = P at hI ⊢
  obtain ⟨wl, hw⟩ : ∃ X, X = wz := ⟨_, rfl⟩; rw [← hw] at hI ⊢; clear hw
  refine hK.out _ _ ?_ (fun hHeld => ?_)
  ·exact HKX.out _ hI.out.r
  clear hK K
  try simp only [Act.put, zA, zB, zC, zD, zE, zF]
  refine ?c2_2; rotate_left 1
  exact AllReadyH.nil
  refine AllReadyH.cons (by rfl) (fun K hK => ?_) ?_
  go_simp
  replace hI := Lib.hid hI.out.allocP
  obtain ⟨wz, hw⟩ : ∃ X, X = wl.alloc (.cells #[.bool false, .slice none 0 0, .slice none 0 0, .slice none 0 0] 30) := ⟨_, rfl⟩
  rw [← hw] at hI ⊢; clear hw; generalize wl.heap.size = P at hI ⊢
  obtain ⟨wl, hw⟩ : ∃ X, X = wz := ⟨_, rfl⟩; rw [← hw] at hI ⊢; clear hw
  refine hK.out _ _ ?_ (fun hHeld => ?_)
  ·exact HKX.out _ hI.out.r
  clear hK K
  try simp only [Act.put, zA, zB, zC, zD, zE, zF]
  refine rdy [2, 7] ?_
  refine AllReadyH.cons (by rfl) (fun K hK => ?_) ?_
  go_simp
  refine (sn_norm (cp := pn) hI.out HP5.out.1 HP5.out.2.1 HP5.out.2.2.1 HP5.out.2.2.2.1 HP5.out.2.2.2.2).mono ?_
  clear hI
  rintro e wl ⟨qs, qa, ql, qc, qb, qk, qe, a8, cp8, rs8, ks, ka, kl, kc, kb, kk, ke, rfl, hI⟩
  refine hK.out _ _ ?_ (fun hHeld => ?_)
  ·exact HKX.out _ hI.out.r
  clear hK K
  try simp only [Act.put, zA, zB, zC, zD, zE, zF]
  refine tkL 3 (v := ?_) ?_ hHeld ?_
  rotate_left 1
  ·intro w' hSw
   (try dsimp only at hSw)
   go_simp
   try with_reducible rfl
  try simp only [Act.put, zA, zB, zC, zD, zE, zF]
  refine tkL 4 (v := ?_) ?_ hHeld ?_
  rotate_left 1
  ·intro w' hSw
   (try dsimp only at hSw)
   go_simp
   try with_reducible rfl
  try simp only [Act.put, zA, zB, zC, zD, zE, zF]
  refine tkL 5 (v := ?_) ?_ hHeld ?_
  rotate_left 1
  ·intro w' hSw
   (try dsimp only at hSw)
   go_simp
   try with_reducible rfl
  try simp only [Act.put, zA, zB, zC, zD, zE, zF]
  refine rdy [7] ?_
  refine AllReadyH.cons (by rfl) (fun K hK => ?_) AllReadyH.nil
  go_simp
  replace hI := Lib.hid hI.out.allocQ
  obtain ⟨wz, hw⟩ : ∃ X, X = wl.alloc (.cells #[.bool false, .slice none 0 0, .slice none 0 0] 27) := ⟨_, rfl⟩
  rw [← hw] at hI ⊢; clear hw; generalize wl.heap.size = Q at hI ⊢
  obtain ⟨wl, hw⟩ : ∃ X, X = wz := ⟨_, rfl⟩; rw [← hw] at hI ⊢; clear hw
  refine hK.out _ _ ?_ (fun hHeld => ?_)
  ·exact HKX.out _ hI.out.r
  clear hK K
  try simp only [Act.put, zA, zB, zC, zD, zE, zF]
  refine ?c2_3; rotate_left 1
  refine AllReadyH.cons (by rfl) (fun K hK => ?_) ?_
  go_simp
  replace hI := Lib.hid hI.out.allocQ
  obtain ⟨wz, hw⟩ : ∃ X, X = wl.alloc (.cells #[.bool false, .slice none 0 0, .slice none 0 0] 27) := ⟨_, rfl⟩
  rw [← hw] at hI ⊢; clear hw; generalize wl.heap.size = Q at hI ⊢
  obtain ⟨wl, hw⟩ : ∃ X, X = wz := ⟨_, rfl⟩; rw [← hw] at hI ⊢; clear hw
  refine hK.out _ _ ?_ (fun hHeld => ?_)
  ·exact HKX.out _ hI.out.r
  clear hK K
  try simp only [Act.put, zA, zB, zC, zD, zE, zF]
  refine ?c1_1; rotate_left 1
  exact AllReadyH.nil
  refine AllReadyH.cons (by rfl) (fun K hK => ?_) ?_
  go_simp
  replace hI := Lib.hid hI.out.allocQ
  obtain ⟨wz, hw⟩ : ∃ X, X = wl.alloc (.cells #[.bool false, .slice none 0 0, .slice none 0 0] 27) := ⟨_, rfl⟩
  rw [← hw] at hI ⊢; clear hw; generalize wl.heap.size = Q at hI ⊢
  obtain ⟨wl, hw⟩ : ∃ X, X = wz := ⟨_, rfl⟩; rw [← hw] at hI ⊢; clear hw
  refine hK.out _ _ ?_ (fun hHeld => ?_)
  ·exact HKX.out _ hI.out.r
  clear hK K
  try simp only [Act.put, zA, zB, zC, zD, zE, zF]
  refine rdy [2, 6] ?_
  refine AllReadyH.cons (by rfl) (fun K hK => ?_) ?_
  go_simp
  refine (sn_norm (cp := pn) hI.out HP5.out.1 HP5.out.2.1 HP5.out.2.2.1 HP5.out.2.2.2.1 HP5.out.2.2.2.2).mono ?_
  clear hI
  rintro e wl ⟨qs, qa, ql, qc, qb, qk, qe, a8, cp8, rs8, ks, ka, kl, kc, kb, kk, ke, rfl, hI⟩
  refine hK.out _ _ ?_ (fun hHeld => ?_)
  ·exact HKX.out _ hI.out.r
  clear hK K
  try simp only [Act.put, zA, zB, zC, zD, zE, zF]
  refine tkL 3 (v := ?_) ?_ hHeld ?_
  rotate_left 1
  ·intro w' hSw
   (try dsimp only at hSw)
   go_simp
   try with_reducible rfl
  try simp only [Act.put, zA, zB, zC, zD, zE, zF]
  refine tkL 4 (v := ?_) ?_ hHeld ?_
  rotate_left 1
  ·intro w' hSw
   (try dsimp only at hSw)
   go_simp
   try with_reducible rfl
  try simp only [Act.put, zA, zB, zC, zD, zE, zF]
  refine tkL 5 (v := ?_) ?_ hHeld ?_
  rotate_left 1
  ·intro w' hSw
   (try dsimp only at hSw)
   go_simp
   try with_reducible rfl
  try simp only [Act.put, zA, zB, zC, zD, zE, zF]
  refine rdy [6] ?_
  refine AllReadyH.cons (by rfl) (fun K hK => ?_) AllReadyH.nil
  go_simp
  replace hI := Lib.hid hI.out.allocP
  obtain ⟨wz, hw⟩ : ∃ X, X = wl.alloc (.cells #[.bool false, .slice none 0 0, .slice none 0 0, .slice none 0 0] 30) := ⟨_, rfl⟩
  rw [← hw] at hI ⊢; clear hw; generalize wl.heap.size = P at hI ⊢
  obtain ⟨wl, hw⟩ : ∃ X, X = wz := ⟨_, rfl⟩; rw [← hw] at hI ⊢; clear hw
  refine hK.out _ _ ?_ (fun hHeld => ?_)
  ·exact HKX.out _ hI.out.r
  clear hK K
  try simp only [Act.put, zA, zB, zC, zD, zE, zF]
  refine ?c2_4; rotate_left 1
  refine AllReadyH.cons (by rfl) (fun K hK => ?_) ?_
  go_simp
  replace hI := Lib.hid hI.out.allocP
  obtain ⟨wz, hw⟩ : ∃ X, X = wl.alloc (.cells #[.bool false, .slice none 0 0, .slice none 0 0, .slice none 0 0] 30) := ⟨_, rfl⟩
  rw [← hw] at hI ⊢; clear hw; generalize wl.heap.size = P at hI ⊢
  obtain ⟨wl, hw⟩ : ∃ X, X = wz := ⟨_, rfl⟩; rw [← hw] at hI ⊢; clear hw
  refine hK.out _ _ ?_ (fun hHeld => ?_)
  ·exact HKX.out _ hI.out.r
  clear hK K
  try simp only [Act.put, zA, zB, zC, zD, zE, zF]
  refine ?c1_2; rotate_left 1
  exact AllReadyH.nil
  exact AllReadyH.nil
  refine AllReadyH.cons (by rfl) (fun K hK => ?_) ?_
  go_simp
  replace hI := Lib.hid hI.out.allocP
  obtain ⟨wz, hw⟩ : ∃ X, X = wl.alloc (.cells #[.bool false, .slice none 0 0, .slice none 0 0, .slice none 0 0] 30) := ⟨_, rfl⟩
  rw [← hw] at hI ⊢; clear hw; generalize wl.heap.size = P at hI ⊢
  obtain ⟨wl, hw⟩ : ∃ X, X = wz := ⟨_, rfl⟩; rw [← hw] at hI ⊢; clear hw
  refine hK.out _ _ ?_ (fun hHeld => ?_)
  ·exact HKX.out _ hI.out.r
  clear hK K
  try simp only [Act.put, zA, zB, zC, zD, zE, zF]
  refine rdy [0, 7] ?_
  refine AllReadyH.cons (by rfl) (fun K hK => ?_) ?_
  go_simp
  refine (sn_new hI.out).mono ?_
  clear hI
  rintro e wl ⟨b, rfl, hI⟩
  refine hK.out _ _ ?_ (fun hHeld => ?_)
  ·exact HKX.out _ hI.out.r
  clear hK K
  try simp only [Act.put, zA, zB, zC, zD, zE, zF]
  refine rdy [2, 7] ?_
  refine AllReadyH.cons (by rfl) (fun K hK => ?_) ?_
  go_simp
  refine (sn_norm (cp := pn) hI.out HP5.out.1 HP5.out.2.1 HP5.out.2.2.1 HP5.out.2.2.2.1 HP5.out.2.2.2.2).mono ?_
  clear hI
  rintro e wl ⟨qs, qa, ql, qc, qb, qk, qe, a8, cp8, rs8, ks, ka, kl, kc, kb, kk, ke, rfl, hI⟩
  refine hK.out _ _ ?_ (fun hHeld => ?_)
  ·exact HKX.out _ hI.out.r
  clear hK K
  try simp only [Act.put, zA, zB, zC, zD, zE, zF]
  refine tkL 3 (v := ?_) ?_ hHeld ?_
  rotate_left 1
  ·intro w' hSw
   (try dsimp only at hSw)
   go_simp
   try with_reducible rfl
  try simp only [Act.put, zA, zB, zC, zD, zE, zF]
  refine tkL 4 (v := ?_) ?_ hHeld ?_
  rotate_left 1
  ·intro w' hSw
   (try dsimp only at hSw)
   go_simp
   try with_reducible rfl
  try simp only [Act.put, zA, zB, zC, zD, zE, zF]
  refine tkL 5 (v := ?_) ?_ hHeld ?_
  rotate_left 1
  ·intro w' hSw
   (try dsimp only at hSw)
   go_simp
   try with_reducible rfl
  try simp only [Act.put, zA, zB, zC, zD, zE, zF]
  refine rdy [7] ?_
  refine AllReadyH.cons (by rfl) (fun K hK => ?_) AllReadyH.nil
  go_simp
  replace hI := Lib.hid hI.out.allocQ
  obtain ⟨wz, hw⟩ : ∃ X, X = wl.alloc (.cells #[.bool false, .slice none 0 0, .slice none 0 0] 27) := ⟨_, rfl⟩
  rw [← hw] at hI ⊢; clear hw; generalize wl.heap.size = Q at hI ⊢
  obtain ⟨wl, hw⟩ : ∃ X, X = wz := ⟨_, rfl⟩; rw [← hw] at hI ⊢; clear hw
  refine hK.out _ _ ?_ (fun hHeld => ?_)
  ·exact HKX.out _ hI.out.r
  clear hK K
  try simp only [Act.put, zA, zB, zC, zD, zE, zF]
  refine ?c2_5; rotate_left 1
  refine AllReadyH.cons (by rfl) (fun K hK => ?_) ?_
  go_simp
  replace hI := Lib.hid hI.out.allocQ
  obtain ⟨wz, hw⟩ : ∃ X, X = wl.alloc (.cells #[.bool false, .slice none 0 0, .slice none 0 0] 27) := ⟨_, rfl⟩
  rw [← hw] at hI ⊢; clear hw; generalize wl.heap.size = Q at hI ⊢
  obtain ⟨wl, hw⟩ : ∃ X, X = wz := ⟨_, rfl⟩; rw [← hw] at hI ⊢; clear hw
  refine hK.out _ _ ?_ (fun hHeld => ?_)
  ·exact HKX.out _ hI.out.r
  clear hK K
  try simp only [Act.put, zA, zB, zC, zD, zE, zF]
  refine ?c1_3; rotate_left 1
  exact AllReadyH.nil
  refine AllReadyH.cons (by rfl) (fun K hK => ?_) ?_
  go_simp
  replace hI := Lib.hid hI.out.allocQ
  obtain ⟨wz, hw⟩ : ∃ X, X = wl.alloc (.cells #[.bool false, .slice none 0 0, .slice none 0 0] 27) := ⟨_, rfl⟩
  rw [← hw] at hI ⊢; clear hw; generalize wl.heap.size = Q at hI ⊢
  obtain ⟨wl, hw⟩ : ∃ X, X = wz := ⟨_, rfl⟩; rw [← hw] at hI ⊢; clear hw
  refine hK.out _ _ ?_ (fun hHeld => ?_)
  ·exact HKX.out _ hI.out.r
  clear hK K
  try simp only [Act.put, zA, zB, zC, zD, zE, zF]
  refine ?c0_1; rotate_left 1
  exact AllReadyH.nil
  refine AllReadyH.cons (by rfl) (fun K hK => ?_) ?_
  go_simp
  replace hI := Lib.hid hI.out.allocQ
  obtain ⟨wz, hw⟩ : ∃ X, X = wl.alloc (.cells #[.bool false, .slice none 0 0, .slice none 0 0] 27) := ⟨_, rfl⟩
  rw [← hw] at hI ⊢; clear hw; generalize wl.heap.size = Q at hI ⊢
  obtain ⟨wl, hw⟩ : ∃ X, X = wz := ⟨_, rfl⟩; rw [← hw] at hI ⊢; clear hw
  refine hK.out _ _ ?_ (fun hHeld => ?_)
  ·exact HKX.out _ hI.out.r
  clear hK K
  try simp only [Act.put, zA, zB, zC, zD, zE, zF]
  refine rdy [0, 6] ?_
  refine AllReadyH.cons (by rfl) (fun K hK => ?_) ?_
  go_simp
  refine (sn_new hI.out).mono ?_
  clear hI
  rintro e wl ⟨b, rfl, hI⟩
  refine hK.out _ _ ?_ (fun hHeld => ?_)
  ·exact HKX.out _ hI.out.r
  clear hK K
  try simp only [Act.put, zA, zB, zC, zD, zE, zF]
  refine rdy [2, 6] ?_
  refine AllReadyH.cons (by rfl) (fun K hK => ?_) ?_
  go_simp
  refine (sn_norm (cp := pn) hI.out HP5.out.1 HP5.out.2.1 HP5.out.2.2.1 HP5.out.2.2.2.1 HP5.out.2.2.2.2).mono ?_
  clear hI
  rintro e wl ⟨qs, qa, ql, qc, qb, qk, qe, a8, cp8, rs8, ks, ka, kl, kc, kb, kk, ke, rfl, hI⟩
  refine hK.out _ _ ?_ (fun hHeld => ?_)
  ·exact HKX.out _ hI.out.r
  clear hK K
  try simp only [Act.put, zA, zB, zC, zD, zE, zF]
  refine tkL 3 (v := ?_) ?_ hHeld ?_
  rotate_left 1
  ·intro w' hSw
   (try dsimp only at hSw)
   go_simp
   try with_reducible rfl
  try simp only [Act.put, zA, zB, zC, zD, zE, zF]
  refine tkL 4 (v := ?_) ?_ hHeld ?_
  rotate_left 1
  ·intro w' hSw
   (try dsimp only at hSw)
   go_simp
   try with_reducible rfl
  try simp only [Act.put, zA, zB, zC, zD, zE, zF]
  refine tkL 5 (v := ?_) ?_ hHeld ?_
  rotate_left 1
  ·intro w' hSw
   (try dsimp only at hSw)
   go_simp
   try with_reducible rfl
  try simp only [Act.put, zA, zB, zC, zD, zE, zF]
  refine rdy [6] ?_
  refine AllReadyH.cons (by rfl) (fun K hK => ?_) AllReadyH.nil
  go_simp
  replace hI := Lib.hid hI.out.allocP
  obtain ⟨wz, hw⟩ : ∃ X, X = wl.alloc (.cells #[.bool false, .slice none 0 0, .slice none 0 0, .slice none 0 0] 30) := ⟨_, rfl⟩
  rw [← hw] at hI ⊢; clear hw; generalize wl.heap.size = P at hI ⊢
  obtain ⟨wl, hw⟩ : ∃ X, X = wz := ⟨_, rfl⟩; rw [← hw] at hI ⊢; clear hw
  refine hK.out _ _ ?_ (fun hHeld => ?_)
  ·exact HKX.out _ hI.out.r
  clear hK K
  try simp only [Act.put, zA, zB, zC, zD, zE, zF]
  refine ?c2_6; rotate_left 1
  refine AllReadyH.cons (by rfl) (fun K hK => ?_) ?_
  go_simp
  replace hI := Lib.hid hI.out.allocP
  obtain ⟨wz, hw⟩ : ∃ X, X = wl.alloc (.cells #[.bool false, .slice none 0 0, .slice none 0 0, .slice none 0 0] 30) := ⟨_, rfl⟩
  rw [← hw] at hI ⊢; clear hw; generalize wl.heap.size = P at hI ⊢
  obtain ⟨wl, hw⟩ : ∃ X, X = wz := ⟨_, rfl⟩; rw [← hw] at hI ⊢; clear hw
  refine hK.out _ _ ?_ (fun hHeld => ?_)
  ·exact HKX.out _ hI.out.r
  clear hK K
  try simp only [Act.put, zA, zB, zC, zD, zE, zF]
  refine ?c1_4; rotate_left 1
  exact AllReadyH.nil
  refine AllReadyH.cons (by rfl) (fun K hK => ?_) ?_
  go_simp
  replace hI := Lib.hid hI.out.allocP
  obtain ⟨wz, hw⟩ : ∃ X, X = wl.alloc (.cells #[.bool false, .slice none 0 0, .slice none 0 0, .slice none 0 0] 30) := ⟨_, rfl⟩
  rw [← hw] at hI ⊢; clear hw; generalize wl.heap.size = P at hI ⊢
  obtain ⟨wl, hw⟩ : ∃ X, X = wz := ⟨_, rfl⟩; rw [← hw] at hI ⊢; clear hw
  refine hK.out _ _ ?_ (fun hHeld => ?_)
  ·exact HKX.out _ hI.out.r
  clear hK K
  try simp only [Act.put, zA, zB, zC, zD, zE, zF]
  refine ?c0_2; rotate_left 1
  exact AllReadyH.nil
  exact AllReadyH.nil
  case c0_1 | c0_2 =>
   refine rdy [0] ?_
   refine AllReadyH.cons (by rfl) (fun K hK => ?_) AllReadyH.nil
   go_simp
   refine (sn_new hI.out).mono ?_
   clear hI
   rintro e wl ⟨b, rfl, hI⟩
   refine hK.out _ _ ?_ (fun hHeld => ?_)
   ·exact HKX.out _ hI.out.r
   clear hK K
   try simp only [Act.put, zA, zB, zC, zD, zE, zF]
   refine rdy [2] ?_
   refine AllReadyH.cons (by rfl) (fun K hK => ?_) AllReadyH.nil
   go_simp
   refine (sn_norm (cp := pn) hI.out HP5.out.1 HP5.out.2.1 HP5.out.2.2.1 HP5.out.2.2.2.1 HP5.out.2.2.2.2).mono ?_
   clear hI
   rintro e wl ⟨qs, qa, ql, qc, qb, qk, qe, a8, cp8, rs8, ks, ka, kl, kc, kb, kk, ke, rfl, hI⟩
   refine hK.out _ _ ?_ (fun hHeld => ?_)
   ·exact HKX.out _ hI.out.r
   clear hK K
   try simp only [Act.put, zA, zB, zC, zD, zE, zF]
   refine tkL 3 (v := ?_) ?_ hHeld ?_
   rotate_left 1
   ·intro w' hSw
    (try dsimp only at hSw)
    go_simp
    try with_reducible rfl
   try simp only [Act.put, zA, zB, zC, zD, zE, zF]
   refine tkL 4 (v := ?_) ?_ hHeld ?_
   rotate_left 1
   ·intro w' hSw
    (try dsimp only at hSw)
    go_simp
    try with_reducible rfl
   try simp only [Act.put, zA, zB, zC, zD, zE, zF]
   refine tkL 5 (v := ?_) ?_ hHeld ?_
   rotate_left 1
   ·intro w' hSw
    (try dsimp only at hSw)
    go_simp
    try with_reducible rfl
   try simp only [Act.put, zA, zB, zC, zD, zE, zF]
   refine rdy [8] ?_
   refine AllReadyH.cons (by rfl) (fun K hK => ?_) AllReadyH.nil
   obtain ⟨x0, x1, x2, x3, f0, f1, f2, f3⟩ := cellsL4 (hI.out.p _ rfl).2
   go_simp
   change K _ (putL4 wl P (.bool qs) (.slice qa ql qc) (.slice qb qk qe) (.slice a8 rs8.length cp8))
   clear x0 x1 x2 x3 f0 f1 f2 f3
   have hE := Lib.hid (sn_stP (cp := cp8) hI.out)
   clear hI
   obtain ⟨wp, hw⟩ : ∃ X, X = putL4 wl P (.bool qs) (.slice qa ql qc) (.slice qb qk qe) (.slice a8 rs8.length cp8) := ⟨_, rfl⟩
   rw [← hw] at hE ⊢
   clear hw
   refine hK.out _ _ ?_ (fun hHeld => ?_)
   ·exact HKX.out _ hE.out.r
   clear hK K
   try simp only [Act.put, zA, zB, zC, zD, zE, zF]
   refine rdy [9] ?_
   refine AllReadyH.cons (by rfl) (fun K hK => ?_) AllReadyH.nil
   obtain ⟨x0, x1, x2, f0, f1, f2⟩ := cells3 (show Blank _ _ from hE.out.q)
   go_simp
   change K _ (set3 wp Q ks (.slice ka kl kc) (.slice kb kk ke))
   clear x0 x1 x2 f0 f1 f2
   have hF := Lib.hid (sn_end (b := b) hE.out)
   refine hK.out _ _ ?_ (fun hHeld => ?_)
   ·exact HKX.out _ hF.out.r
   clear hK K
   try simp only [Act.put, zA, zB, zC, zD, zE, zF]
   refine wpAnyH_done (by kernel_rfl) ?_ _
   exact ⟨_, by simp only [puts, Act.put, zA, zB, zC, zD, zE, zF], hF.out⟩
  case c1_1 | c1_2 | c1_3 | c1_4 =>
   refine rdy [2] ?_
   refine AllReadyH.cons (by rfl) (fun K hK => ?_) AllReadyH.nil
   go_simp
   refine (sn_norm (cp := pn) hI.out HP5.out.1 HP5.out.2.1 HP5.out.2.2.1 HP5.out.2.2.2.1 HP5.out.2.2.2.2).mono ?_
   clear hI
   rintro e wl ⟨qs, qa, ql, qc, qb, qk, qe, a8, cp8, rs8, ks, ka, kl, kc, kb, kk, ke, rfl, hI⟩
   refine hK.out _ _ ?_ (fun hHeld => ?_)
   ·exact HKX.out _ hI.out.r
   clear hK K
   try simp only [Act.put, zA, zB, zC, zD, zE, zF]
   refine tkL 3 (v := ?_) ?_ hHeld ?_
   rotate_left 1
   ·intro w' hSw
    (try dsimp only at hSw)
    go_simp
    try with_reducible rfl
   try simp only [Act.put, zA, zB, zC, zD, zE, zF]
   refine tkL 4 (v := ?_) ?_ hHeld ?_
   rotate_left 1
   ·intro w' hSw
    (try dsimp only at hSw)
    go_simp
    try with_reducible rfl
   try simp only [Act.put, zA, zB, zC, zD, zE, zF]
   refine tkL 5 (v := ?_) ?_ hHeld ?_
   rotate_left 1
   ·intro w' hSw
    (try dsimp only at hSw)
    go_simp
    try with_reducible rfl
   try simp only [Act.put, zA, zB, zC, zD, zE, zF]
   refine rdy [8] ?_
   refine AllReadyH.cons (by rfl) (fun K hK => ?_) AllReadyH.nil
   obtain ⟨x0, x1, x2, x3, f0, f1, f2, f3⟩ := cellsL4 (hI.out.p _ rfl).2
   go_simp
   change K _ (putL4 wl P (.bool qs) (.slice qa ql qc) (.slice qb qk qe) (.slice a8 rs8.length cp8))
   clear x0 x1 x2 x3 f0 f1 f2 f3
   have hE := Lib.hid (sn_stP (cp := cp8) hI.out)
   clear hI
   obtain ⟨wp, hw⟩ : ∃ X, X = putL4 wl P (.bool qs) (.slice qa ql qc) (.slice qb qk qe) (.slice a8 rs8.length cp8) := ⟨_, rfl⟩
   rw [← hw] at hE ⊢
   clear hw
   refine hK.out _ _ ?_ (fun hHeld => ?_)
   ·exact HKX.out _ hE.out.r
   clear hK K
   try simp only [Act.put, zA, zB, zC, zD, zE, zF]
   refine rdy [9] ?_
   refine AllReadyH.cons (by rfl) (fun K hK => ?_) AllReadyH.nil
   obtain ⟨x0, x1, x2, f0, f1, f2⟩ := cells3 (show Blank _ _ from hE.out.q)
   go_simp
   change K _ (set3 wp Q ks (.slice ka kl kc) (.slice kb kk ke))
   clear x0 x1 x2 f0 f1 f2
   have hF := Lib.hid (sn_end (b := b) hE.out)
   refine hK.out _ _ ?_ (fun hHeld => ?_)
   ·exact HKX.out _ hF.out.r
   clear hK K
   try simp only [Act.put, zA, zB, zC, zD, zE, zF]
   refine wpAnyH_done (by kernel_rfl) ?_ _
   exact ⟨_, by simp only [puts, Act.put, zA, zB, zC, zD, zE, zF], hF.out⟩
  case c2_1 | c2_2 | c2_3 | c2_4 | c2_5 | c2_6 =>
   refine rdy [8] ?_
   refine AllReadyH.cons (by rfl) (fun K hK => ?_) AllReadyH.nil
   obtain ⟨x0, x1, x2, x3, f0, f1, f2, f3⟩ := cellsL4 (hI.out.p _ rfl).2
   go_simp
   change K _ (putL4 wl P (.bool qs) (.slice qa ql qc) (.slice qb qk qe) (.slice a8 rs8.length cp8))
   clear x0 x1 x2 x3 f0 f1 f2 f3
   have hE := Lib.hid (sn_stP (cp := cp8) hI.out)
   clear hI
   obtain ⟨wp, hw⟩ : ∃ X, X = putL4 wl P (.bool qs) (.slice qa ql qc) (.slice qb qk qe) (.slice a8 rs8.length cp8) := ⟨_, rfl⟩
   rw [← hw] at hE ⊢
   clear hw
   refine hK.out _ _ ?_ (fun hHeld => ?_)
   ·exact HKX.out _ hE.out.r
   clear hK K
   try simp only [Act.put, zA, zB, zC, zD, zE, zF]
   refine rdy [9] ?_
   refine AllReadyH.cons (by rfl) (fun K hK => ?_) AllReadyH.nil
   obtain ⟨x0, x1, x2, f0, f1, f2⟩ := cells3 (show Blank _ _ from hE.out.q)
   go_simp
   change K _ (set3 wp Q ks (.slice ka kl kc) (.slice kb kk ke))
   clear x0 x1 x2 f0 f1 f2
   have hF := Lib.hid (sn_end (b := b) hE.out)
   refine hK.out _ _ ?_ (fun hHeld => ?_)
   ·exact HKX.out _ hF.out.r
   clear hK K
   try simp only [Act.put, zA, zB, zC, zD, zE, zF]
   refine wpAnyH_done (by kernel_rfl) ?_ _
   exact ⟨_, by simp only [puts, Act.put, zA, zB, zC, zD, zE, zF], hF.out⟩
 rintro ⟨b, P, Q, ⟨qs, ⟨qa, ql, qc⟩, ⟨qb, qk, qe⟩⟩, a8, rs8, cp8, ⟨ks, ⟨ka, kl, kc⟩, ⟨kb, kk, ke⟩⟩⟩ w8 hS
 simp only [puts, Act.put, zA, zB, zC, zD, zE, zF]
 obtain ⟨n8, hn8⟩ : ∃ n, rs8.length = n := ⟨_, rfl⟩
 have HB8 := Lib.hid hS.r
 have HBW8 := Lib.hid (HBW.out.trans (hS.r.mono HBW.out.size))
 obtain ⟨p0, p1, p2, p3⟩ := HKX.out _ hS.r
 have hz : ((phs.length : Int) == 0) = decide (ms = []) := by
  have := HZ.out.2.2.2.2.2.2
  cases ms with
  | nil =>
   have h0 : phs.length = 0 := by simpa using this.symm
   rw [h0]
   simp
  | cons x l =>
   have h0 : phs.length ≠ 0 := by rw [← this]; simp
   rw [cast_beq_no h0]
   simp
 cases hms : decide (ms = [])
 case true =>
  obtain rfl := of_decide_eq_true hms
  have HSM := Lib.hid (same_sm (cp1 := cp8) (cp2 := 0) (show PolyAt 0 [] _ _ _ _ from hS.poly) (zero_at w8) (by rw [szQ_zero]; omega) (by simp) (by simp) (by simp) hn8 rfl ⟨rfl, rfl⟩)
  have HKK : Hid (∀ W, Below w8.heap.size w8 W → (W.cell? ⟨Q, 0, none⟩ = some (.bool ks) ∧ W.cell? ⟨Q, 1, none⟩ = some (.slice ka kl kc) ∧ W.cell? ⟨Q, 2, none⟩ = some (.slice kb kk ke)) ∧ Calls Tryz.prog 23 #[.agg #[.bool ks, .slice ka kl kc, .slice kb kk ke], .agg #[.bool false, .slice none 0 0, .slice none 0 0]] W (GotV W (.bool true))) := Lib.hid fun W h => by
   obtain ⟨x0, x1, x2, _⟩ := cells3 (stayL hS.q h)
   refine ⟨⟨x0, x1, x2⟩, ?_⟩
   have := got_sameL (W5 := W) (show VQ 0 _ W from hS.num.kept h) (VQ.zero W) (by rw [szQ_zero]; omega) (Below.refl _ _)
   simpa using this
  obtain ⟨x0, x1, x2, x3, _⟩ := cellsL4 hS.p
  dsimp only at x0 x1 x2 x3
  rw [hn8] at x3 ⊢
  try rw [hms] at hz
  clear hms hS hn8
  go_wp2_with fail
  refine HSM.out.mono ?_
  rintro e w9 ⟨rfl, hb9⟩
  obtain ⟨⟨y0, y1, y2⟩, hc⟩ := HKK.out _ hb9
  have HC := Lib.hid hc
  have HB9 := Lib.hid (HBW8.out.trans (hb9.mono HBW8.out.size))
  clear hc hb9 HSM HKK x0 x1 x2 x3 p0 p1 p2 p3
  go_wp2_with fail
  refine HC.out.mono ?_
  rintro e w10 ⟨rfl, hb10⟩
  have HE := Lib.hid (HB9.out.trans (hb10.out.mono HB9.out.size))
  clear hb10 HC y0 y1 y2
  go_wp2_with fail
  go_ret
  exact ⟨rfl, HE.out⟩
 case false =>
 try rw [hms] at hz
 have hne : ms ≠ [] := of_decide_eq_false hms
 obtain ⟨x, l, rfl⟩ : ∃ x l, ms = x :: l := by cases ms with
  | nil => exact absurd rfl hne
  | cons x l => exact ⟨x, l, rfl⟩
 obtain ⟨z1, zm1, n1, e1, f1, np1, v1⟩ := HZ.out
 have hx0 : x.2 ≠ 0 := f1.nz x (by simp)
 have hhd := nM_head (l := l) hx0
 have hnl : (nM (x :: l)).length ≤ 12 := by have := scale_len (1 / x.2) (x :: l); have h2 : (nM (x :: l)).length = (scale (1 / x.2) (x :: l)).length := rfl; omega
 obtain ⟨d, m0, g, off, hd0, hm0, hqa, hok, hr⟩ := hS.poly.ms.get (k := 0) (by rw [hhd]; simp)
 rw [hhd] at hm0
 simp at hm0
 subst hm0
 obtain ⟨v, us, ua, ul, uc, ub, uk, ue⟩ := d
 obtain ⟨hv, hq⟩ := hok
 dsimp only [RM.raw] at hv hq hqa
 subst hqa
 rw [Nat.zero_mul, Nat.add_zero] at hr
 have hn80 : 0 < n8 := by rw [← hn8, hS.poly.ms.len, hhd]; simp
 have HR29 : Hid (∀ W, Below w8.heap.size w8 W → Calls Tryz.prog 9 #[.agg #[.bool qs, .slice qa ql qc, .slice qb qk qe, .slice (some ⟨g, off, none⟩) n8 cp8]] W (GivesV (.bool true) W)) := Lib.hid fun W h =>
  right_poly (hS.poly.kept h) (scale_fit _ f1) (fun y hy => by obtain ⟨m, hm, e⟩ := scale_mem hy; rw [e]; exact np1 m hm) (by show szQ 0 ≤ _; rw [szQ_zero]; omega) (fun y hy => by have := nM_sz zm1 y hy; omega) (by omega) hn8
 have HT42 : Hid (∀ W, Below w8.heap.size w8 W → Calls Tryz.prog 27 #[.agg #[.bool us, .slice ua ul uc, .slice ub uk ue]] W (GivesV (.string ⟨#[49]⟩) W)) := Lib.hid fun W h => by
  have ht := text_vq (hq.kept h) (by have : szQ (1 : Rat) ≤ 2 := by decide +kernel
                                     omega)
  rw [show textQ 1 = ⟨#[49]⟩ by decide +kernel] at ht
  exact ht
 have HS49 : Hid (∀ W, Below w8.heap.size w8 W → Calls Tryz.prog 23 #[.agg #[.bool qs, .slice qa ql qc, .slice qb qk qe], .agg #[.bool false, .slice none 0 0, .slice none 0 0]] W (GivesV (.bool true) W)) := Lib.hid fun W h => by
  have := got_sameL (W5 := W) (show VQ 0 _ W from hS.poly.num.kept h) (VQ.zero W) (by rw [szQ_zero]; omega) (Below.refl _ _)
  refine this.mono fun e W' hg => ⟨?_, hg.2.out⟩
  rw [hg.1]
  simp
 have HOF := Lib.hid (fun (P : Option Nat) (W : World) (h : Sq w8 P (fun _ => True) W) => sq_of hS.num (by have := nK_sz zm1; omega) h)
 have HAD := Lib.hid (fun (P : Option Nat) (W : World) (t : Bool) (y1 : Option Addr) (n1 j1 : Nat) (y2 : Option Addr) (n2 j2 : Nat) (h : Sq w8 P (VD (nK (x :: l)) (t, (y1, n1, j1), (y2, n2, j2))) W) => sq_add (cp1 := 0) (cp2 := cp8) (⟨(HP5.out.1.kept hS.r).num, MsAt.nil w8 none⟩ : PolyAt c1 [] (ps, (pa, px.length, pc), (pb, pd.length, pe)) none [] w8) hS.poly (by have := nK_sz zm1; omega) (by omega) (by simp) (by show szQ 0 ≤ _; rw [szQ_zero]; omega) (fun y hy => by have := nM_sz zm1 y hy; omega) (by simp) (by rw [hS.poly.ms.len]; omega) rfl hn8 h)
 have HS60 : Hid (∀ (W : World) (s : Bool) (z1 : Option Addr) (m1 k1 : Nat) (z2 : Option Addr) (m2 k2 : Nat) (a : Option Addr) (rs : List RM) (cp : Nat), Below w8.heap.size w8 W → PolyAt (c1 + nK (x :: l) * nC (x :: l)) (refAdd [] (nK (x :: l)) (nM (x :: l))) (s, (z1, m1, k1), (z2, m2, k2)) a rs W →
     Calls Tryz.prog 15 #[.agg #[.bool s, .slice z1 m1 k1, .slice z2 m2 k2, .slice a rs.length cp], .agg #[.bool ps, .slice pa px.length pc, .slice pb pd.length pe, .slice pm phs.length pn]] W (GivesV (.bool true) W)) := Lib.hid fun W s y1 m1 k1 y2 m2 k2 a rs cp h hp => by
  have e0 : c1 + nK (x :: l) * nC (x :: l) = c1 := by show c1 + _ * 0 = c1; rw [Rat.mul_zero, Rat.add_zero]
  have e2 : refAdd [] (nK (x :: l)) (nM (x :: l)) = x :: l := normal_ref f1 hx0
  rw [e0, e2] at hp
  exact same_sm hp ((HP5.out.1.kept hS.r).kept h) (by omega) (fun y hy => by have := zm1 y hy; omega) (by omega) (by omega) rfl e1 ⟨rfl, rfl⟩
 have HK8 : Hid (∀ W, Below w8.heap.size w8 W → ((fun w' => (w'.cell? ⟨P, 0, none⟩ = some (.bool qs) ∧ w'.cell? ⟨P, 1, none⟩ = some (.slice qa ql qc) ∧ w'.cell? ⟨P, 2, none⟩ = some (.slice qb qk qe) ∧ w'.cell? ⟨P, 3, none⟩ = some (.slice (some ⟨g, off, none⟩) n8 cp8)) ∧ (w'.cell? ⟨Q, 0, none⟩ = some (.bool ks) ∧ w'.cell? ⟨Q, 1, none⟩ = some (.slice ka kl kc) ∧ w'.cell? ⟨Q, 2, none⟩ = some (.slice kb kk ke)) ∧ (w'.cell? ⟨w.heap.size, 0, none⟩ = some (.bool ps) ∧ w'.cell? ⟨w.heap.size, 1, none⟩ = some (.slice pa px.length pc) ∧ w'.cell? ⟨w.heap.size, 2, none⟩ = some (.slice pb pd.length pe) ∧ w'.cell? ⟨w.heap.size, 3, none⟩ = some (.slice pm phs.length pn)) ∧ w'.cell? ⟨g, off + 1, none⟩ = some (.bool us) ∧ w'.cell? ⟨g, off + 2, none⟩ = some (.slice ua ul uc) ∧ w'.cell? ⟨g, off + 3, none⟩ = some (.slice ub uk ue))) W) := Lib.hid fun W h => by
  obtain ⟨x0, x1, x2, x3, _⟩ := cellsL4 (stayL hS.p h)
  obtain ⟨y0, y1, y2, _⟩ := cells3 (stayL hS.q h)
  dsimp only at x0 x1 x2 x3 y0 y1 y2
  rw [hn8] at x3
  have e1 : w8.cell? ⟨g, off + 1, none⟩ = some (.bool us) := hr 1 _ rfl
  have e2 : w8.cell? ⟨g, off + 2, none⟩ = some (.slice ua ul uc) := hr 2 _ rfl
  have e3 : w8.cell? ⟨g, off + 3, none⟩ = some (.slice ub uk ue) := hr 3 _ rfl
  exact ⟨⟨x0, x1, x2, x3⟩, ⟨y0, y1, y2⟩, HKX.out _ (HB8.out.trans (h.mono HB8.out.size)), cell_stay e1 h, cell_stay e2 h, cell_stay e3 h⟩
 try rw [hms] at hz
 rw [hn8]
 have hzl : (0 : Int) < (n8 : Int) := by omega
 have hzd : decide ((0 : Int) < (n8 : Int)) = true := decide_eq_true hzl
 clear hms hS hd0 hv hq hr hhd hx0 hnl z1 zm1 n1 e1 f1 np1 v1 hne hn8 HKX
 go_wp2_with fail
 clear p0 p1 p2 p3
 refine wp_region_ex (ι := RawR × RawR × Option Addr × List RM × Nat) (fun i => [(28, .agg #[.bool qs, .slice qa ql qc, .slice qb qk qe, .slice (some ⟨g, off, none⟩) n8 cp8]), (29, .bool true), (30, .bool true), (31, .pointer (some ⟨P, 3, none⟩)), (32, .slice (some ⟨g, off, none⟩) n8 cp8), (33, .int .i64 (n8 : Int)), (34, .bool true), (35, .bool true), (36, .bool true), (37, .pointer (some ⟨P, 3, none⟩)), (38, .slice (some ⟨g, off, none⟩) n8 cp8), (39, .pointer (some ⟨g, off, none⟩)), (40, .pointer (some ⟨g, off + 1, none⟩)), (41, .agg #[.bool us, .slice ua ul uc, .slice ub uk ue]), (42, .string ⟨#[49]⟩), (43, .bool true), (44, .bool true), (45, .bool true), (46, .pointer (some ⟨P, 0, none⟩)), (47, .agg #[.bool qs, .slice qa ql qc, .slice qb qk qe]), (48, .agg #[.bool false, .slice none 0 0, .slice none 0 0]), (49, .bool true), (50, .bool true), (51, .bool true), (52, .pointer (some ⟨w.heap.size, 0, none⟩)), (53, .agg #[.bool ps, .slice pa px.length pc, .slice pb pd.length pe]), (54, .agg #[.bool ps, .slice pa px.length pc, .slice pb pd.length pe, .slice none 0 0]), (55, .agg #[.bool ks, .slice ka kl kc, .slice kb kk ke]), (56, .agg #[.bool i.1.1, .slice i.1.2.1.1 i.1.2.1.2.1 i.1.2.1.2.2, .slice i.1.2.2.1 i.1.2.2.2.1 i.1.2.2.2.2]), (57, .agg #[.bool qs, .slice qa ql qc, .slice qb qk qe, .slice (some ⟨g, off, none⟩) n8 cp8]), (58, .agg #[.bool i.2.1.1, .slice i.2.1.2.1.1 i.2.1.2.1.2.1 i.2.1.2.1.2.2, .slice i.2.1.2.2.1 i.2.1.2.2.2.1 i.2.1.2.2.2.2, .slice i.2.2.1 i.2.2.2.1.length i.2.2.2.2]), (59, .agg #[.bool ps, .slice pa px.length pc, .slice pb pd.length pe, .slice pm phs.length pn]), (60, .bool true), (61, .bool true), (2, .bool true)]) (fun _ W => Below w8.heap.size w8 W) ?reg8 ?rest8
 case reg8 =>
  have hI : Hid (Sq w8 none (fun _ => True) w8.drew) := Lib.hid ⟨below_drew w8, by simp, fun _ _ => trivial⟩
  obtain ⟨wl, hw0⟩ : ∃ X, X = w8.drew := ⟨_, rfl⟩
  rw [← hw0] at hI
  refine wp_region_held_drew (S := (fun w' => (w'.cell? ⟨P, 0, none⟩ = some (.bool qs) ∧ w'.cell? ⟨P, 1, none⟩ = some (.slice qa ql qc) ∧ w'.cell? ⟨P, 2, none⟩ = some (.slice qb qk qe) ∧ w'.cell? ⟨P, 3, none⟩ = some (.slice (some ⟨g, off, none⟩) n8 cp8)) ∧ (w'.cell? ⟨Q, 0, none⟩ = some (.bool ks) ∧ w'.cell? ⟨Q, 1, none⟩ = some (.slice ka kl kc) ∧ w'.cell? ⟨Q, 2, none⟩ = some (.slice kb kk ke)) ∧ (w'.cell? ⟨w.heap.size, 0, none⟩ = some (.bool ps) ∧ w'.cell? ⟨w.heap.size, 1, none⟩ = some (.slice pa px.length pc) ∧ w'.cell? ⟨w.heap.size, 2, none⟩ = some (.slice pb pd.length pe) ∧ w'.cell? ⟨w.heap.size, 3, none⟩ = some (.slice pm phs.length pn)) ∧ w'.cell? ⟨g, off + 1, none⟩ = some (.bool us) ∧ w'.cell? ⟨g, off + 2, none⟩ = some (.slice ua ul uc) ∧ w'.cell? ⟨g, off + 3, none⟩ = some (.slice ub uk ue))) (by kernel_rfl) ?_ (fun hHeld => ?_)
  rotate_left 1
  rw [← hw0] at hHeld ⊢; clear hw0
  rotate_left 1
  ·rw [← hw0]; exact HK8.out _ hI.out.r
  refine tkL 0 (v := ?_) ?_ hHeld ?_
  rotate_left 1
  ·intro w' hSw
   (try dsimp only at hSw)
   go_simp
   try with_reducible rfl
  try simp only [Act.put, zA, zB, zC, zD, zE, zF]
  refine rdy [1] ?_
  refine AllReadyH.cons (by rfl) (fun K hK => ?_) AllReadyH.nil
  go_simp
  refine (sq_val hI.out (HR29.out _ hI.out.r)).mono ?_
  clear hI
  rintro e wl ⟨rfl, hI⟩
  refine hK.out _ _ ?_ (fun hHeld => ?_)
  ·exact HK8.out _ hI.out.r
  clear hK K
  try simp only [Act.put, zA, zB, zC, zD, zE, zF]
  refine tkL 2 (v := ?_) ?_ hHeld ?_
  rotate_left 1
  ·intro w' hSw
   (try dsimp only at hSw)
   go_simp
   try with_reducible rfl
  try simp only [Act.put, zA, zB, zC, zD, zE, zF]
  refine tkL 3 (v := ?_) ?_ hHeld ?_
  rotate_left 1
  ·intro w' hSw
   (try dsimp only at hSw)
   go_simp
   try with_reducible rfl
  try simp only [Act.put, zA, zB, zC, zD, zE, zF]
  refine tkL 4 (v := ?_) ?_ hHeld ?_
  rotate_left 1
  ·intro w' hSw
   (try dsimp only at hSw)
   go_simp
   try with_reducible rfl
  try simp only [Act.put, zA, zB, zC, zD, zE, zF]
  refine tkL 5 (v := ?_) ?_ hHeld ?_
  rotate_left 1
  ·intro w' hSw
   (try dsimp only at hSw)
   go_simp
   try with_reducible rfl
  try simp only [Act.put, zA, zB, zC, zD, zE, zF]
  refine tkL 6 (v := ?_) ?_ hHeld ?_
  rotate_left 1
  ·intro w' hSw
   (try dsimp only at hSw)
   go_simp
   try with_reducible rfl
  try simp only [Act.put, zA, zB, zC, zD, zE, zF]
  refine tkL 7 (v := ?_) ?_ hHeld ?_
  rotate_left 1
  ·intro w' hSw
   (try dsimp only at hSw)
   go_simp
   try with_reducible rfl
  try simp only [Act.put, zA, zB, zC, zD, zE, zF]
  refine tkL 8 (v := ?_) ?_ hHeld ?_
  rotate_left 1
  ·intro w' hSw
   (try dsimp only at hSw)
   go_simp
   try with_reducible rfl
  try simp only [Act.put, zA, zB, zC, zD, zE, zF]
  refine tkL 9 (v := ?_) ?_ hHeld ?_
  rotate_left 1
  ·intro w' hSw
   (try dsimp only at hSw)
   go_simp
   try with_reducible rfl
  try simp only [Act.put, zA, zB, zC, zD, zE, zF]
  refine tkL 10 (v := ?_) ?_ hHeld ?_
  rotate_left 1
  ·intro w' hSw
   (try dsimp only at hSw)
   go_simp
   try with_reducible rfl
  try simp only [Act.put, zA, zB, zC, zD, zE, zF]
  refine tkL 11 (v := ?_) ?_ hHeld ?_
  rotate_left 1
  ·intro w' hSw
   (try dsimp only at hSw)
   go_simp
   try with_reducible rfl
  try simp only [Act.put, zA, zB, zC, zD, zE, zF]
  refine tkL 12 (v := ?_) ?_ hHeld ?_
  rotate_left 1
  ·intro w' hSw
   (try dsimp only at hSw)
   go_simp
   try with_reducible rfl
  try simp only [Act.put, zA, zB, zC, zD, zE, zF]
  refine tkL 13 (v := ?_) ?_ hHeld ?_
  rotate_left 1
  ·intro w' hSw
   (try dsimp only at hSw)
   go_simp
   try with_reducible rfl
  try simp only [Act.put, zA, zB, zC, zD, zE, zF]
  refine rdy [14] ?_
  refine AllReadyH.cons (by rfl) (fun K hK => ?_) AllReadyH.nil
  go_simp
  refine (sq_val hI.out (HT42.out _ hI.out.r)).mono ?_
  clear hI
  rintro e wl ⟨rfl, hI⟩
  refine hK.out _ _ ?_ (fun hHeld => ?_)
  ·exact HK8.out _ hI.out.r
  clear hK K
  try simp only [Act.put, zA, zB, zC, zD, zE, zF]
  refine tkL 15 (v := ?_) ?_ hHeld ?_
  rotate_left 1
  ·intro w' hSw
   (try dsimp only at hSw)
   go_simp
   try with_reducible rfl
  try simp only [Act.put, zA, zB, zC, zD, zE, zF]
  refine tkL 16 (v := ?_) ?_ hHeld ?_
  rotate_left 1
  ·intro w' hSw
   (try dsimp only at hSw)
   go_simp
   try with_reducible rfl
  try simp only [Act.put, zA, zB, zC, zD, zE, zF]
  refine tkL 17 (v := ?_) ?_ hHeld ?_
  rotate_left 1
  ·intro w' hSw
   (try dsimp only at hSw)
   go_simp
   try with_reducible rfl
  try simp only [Act.put, zA, zB, zC, zD, zE, zF]
  refine tkL 18 (v := ?_) ?_ hHeld ?_
  rotate_left 1
  ·intro w' hSw
   (try dsimp only at hSw)
   go_simp
   try with_reducible rfl
  try simp only [Act.put, zA, zB, zC, zD, zE, zF]
  refine tkL 19 (v := ?_) ?_ hHeld ?_
  rotate_left 1
  ·intro w' hSw
   (try dsimp only at hSw)
   go_simp
   try with_reducible rfl
  try simp only [Act.put, zA, zB, zC, zD, zE, zF]
  refine tkL 20 (v := ?_) ?_ hHeld ?_
  rotate_left 1
  ·intro w' hSw
   (try dsimp only at hSw)
   go_simp
   try with_reducible rfl
  try simp only [Act.put, zA, zB, zC, zD, zE, zF]
  refine rdy [21] ?_
  refine AllReadyH.cons (by rfl) (fun K hK => ?_) AllReadyH.nil
  go_simp
  refine (sq_val hI.out (HS49.out _ hI.out.r)).mono ?_
  clear hI
  rintro e wl ⟨rfl, hI⟩
  refine hK.out _ _ ?_ (fun hHeld => ?_)
  ·exact HK8.out _ hI.out.r
  clear hK K
  try simp only [Act.put, zA, zB, zC, zD, zE, zF]
  refine tkL 22 (v := ?_) ?_ hHeld ?_
  rotate_left 1
  ·intro w' hSw
   (try dsimp only at hSw)
   go_simp
   try with_reducible rfl
  try simp only [Act.put, zA, zB, zC, zD, zE, zF]
  refine tkL 23 (v := ?_) ?_ hHeld ?_
  rotate_left 1
  ·intro w' hSw
   (try dsimp only at hSw)
   go_simp
   try with_reducible rfl
  try simp only [Act.put, zA, zB, zC, zD, zE, zF]
  refine tkL 24 (v := ?_) ?_ hHeld ?_
  rotate_left 1
  ·intro w' hSw
   (try dsimp only at hSw)
   go_simp
   try with_reducible rfl
  try simp only [Act.put, zA, zB, zC, zD, zE, zF]
  refine tkL 25 (v := ?_) ?_ hHeld ?_
  rotate_left 1
  ·intro w' hSw
   (try dsimp only at hSw)
   go_simp
   try with_reducible rfl
  try simp only [Act.put, zA, zB, zC, zD, zE, zF]
  refine tkL 26 (v := ?_) ?_ hHeld ?_
  rotate_left 1
  ·intro w' hSw
   (try dsimp only at hSw)
   go_simp
   try with_reducible rfl
  try simp only [Act.put, zA, zB, zC, zD, zE, zF]
  refine tkL 27 (v := ?_) ?_ hHeld ?_
  rotate_left 1
  ·intro w' hSw
   (try dsimp only at hSw)
   go_simp
   try with_reducible rfl
  try simp only [Act.put, zA, zB, zC, zD, zE, zF]
  refine tkL 29 (v := ?_) ?_ hHeld ?_
  rotate_left 1
  ·intro w' hSw
   (try dsimp only at hSw)
   go_simp
   try with_reducible rfl
  try simp only [Act.put, zA, zB, zC, zD, zE, zF]
  refine tkL 31 (v := ?_) ?_ hHeld ?_
  rotate_left 1
  ·intro w' hSw
   (try dsimp only at hSw)
   go_simp
   try with_reducible rfl
  try simp only [Act.put, zA, zB, zC, zD, zE, zF]
  refine rdy [28] ?_
  refine AllReadyH.cons (by rfl) (fun K hK => ?_) AllReadyH.nil
  go_simp
  refine (HOF.out _ _ hI.out).mono ?_
  clear hI
  rintro e wl ⟨ds, da, dl, dc, db, dk, de, rfl, hI⟩
  refine hK.out _ _ ?_ (fun hHeld => ?_)
  ·exact HK8.out _ hI.out.r
  clear hK K
  try simp only [Act.put, zA, zB, zC, zD, zE, zF]
  refine rdy [30] ?_
  refine AllReadyH.cons (by rfl) (fun K hK => ?_) AllReadyH.nil
  go_simp
  refine (HAD.out _ _ _ _ _ _ _ _ _ hI.out).mono ?_
  clear hI
  rintro e wl ⟨ts, ta, tl, tc, tb, tk, te, a9, cp9, rs9, rfl, hI⟩
  refine hK.out _ _ ?_ (fun hHeld => ?_)
  ·exact HK8.out _ hI.out.r
  clear hK K
  try simp only [Act.put, zA, zB, zC, zD, zE, zF]
  refine rdy [32] ?_
  refine AllReadyH.cons (by rfl) (fun K hK => ?_) AllReadyH.nil
  go_simp
  refine (HS60.out _ _ _ _ _ _ _ _ _ _ _ hI.out.r hI.out.now).mono ?_
  rintro e wl2 ⟨rfl, hb⟩
  replace hI := Lib.hid (hI.out.r.trans (hb.mono hI.out.r.size))
  clear hb
  refine hK.out _ _ ?_ (fun hHeld => ?_)
  ·exact HK8.out _ hI.out
  clear hK K
  try simp only [Act.put, zA, zB, zC, zD, zE, zF]
  refine tkL 33 (v := ?_) ?_ hHeld ?_
  rotate_left 1
  ·intro w' hSw
   (try dsimp only at hSw)
   go_simp
   try with_reducible rfl
  try simp only [Act.put, zA, zB, zC, zD, zE, zF]
  refine tkL 34 (v := ?_) ?_ hHeld ?_
  rotate_left 1
  ·intro w' hSw
   (try dsimp only at hSw)
   go_simp
   try with_reducible rfl
  try simp only [Act.put, zA, zB, zC, zD, zE, zF]
  refine wpAnyH_done (by kernel_rfl) ?_ _
  have hE := Lib.hid hI.out
  exact ⟨((ds, (da, dl, dc), (db, dk, de)), (ts, (ta, tl, tc), (tb, tk, te)), a9, rs9, cp9), by simp only [puts, Act.put, zA, zB, zC, zD, zE, zF], hE.out⟩
 rintro ⟨⟨ds, ⟨da, dl, dc⟩, ⟨db, dk, de⟩⟩, ⟨ts, ⟨ta, tl, tc⟩, ⟨tb, tk, te⟩⟩, a9, rs9, cp9⟩ w9 hS
 simp only [puts, Act.put, zA, zB, zC, zD, zE, zF]
 have HE := Lib.hid (HBW8.out.trans (hS.mono HBW8.out.size))
 clear hS HR29 HT42 HS49 HOF HAD HS60 HK8
 go_wp2_with fail
 go_ret
 exact ⟨rfl, HE.out⟩
end Go.Proofs.YtpjeecahaeaajaaGreatDoor
