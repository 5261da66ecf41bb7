/- By program out of: LnOver. -/
import Derived.Test.YtpjeecahaeaajaaGreatDoorMeadaig
import Derived.Test.YtpjeecahaeaajaaGreatDoorMcleleh
import Derived.Test.YtpjeecahaeaajaaGreatDoorMocjmoc
set_option linter.unusedVariables false
set_option linter.unusedSimpArgs false
namespace Go.Proofs.YtpjeecahaeaajaaGreatDoor
open Go.RowKit Rep Ln
theorem ovQ_zero {m : Nat} : ovQ m 0 = false := by
 have h1 : L (mgQ 0) = [] := by decide +kernel
 have h2 : L (denN (0 : Rat).den) = [] := by decide +kernel
 unfold ovQ rO
 rw [h1, h2]
 simp
theorem fits_no {m : Nat} {c : Rat} {ms : List Mo} (h : ovQ m c = true ∨ ∃ x ∈ ms, ovQ m x.2 = true) : fitsP m c ms = false := by
 unfold fitsP
 rcases h with h | ⟨x, hx, h⟩
 ·simp [h]
 ·rw [Bool.and_eq_false_iff]
  right
  rw [List.all_eq_false]
  exact ⟨x, hx, by simp [h]⟩
theorem keep_in {m : Nat} {v : Int} {q : Rat} (h : ovQ m q = true) : (v, q) ∈ keep (v, q) := by
 unfold keep
 rw [if_neg]
 ·simp
 ·intro h0
  dsimp only at h0
  rw [h0, ovQ_zero] at h
  cases h
theorem meet_fits {m : Nat} {x : Mo} {r : List Mo} (h : meetO m x r = true) : ovQ m x.2 = true ∨ ∃ y ∈ (meet x r).1, ovQ m y.2 = true := by
 cases r with
 | nil => exact .inl h
 | cons n r' =>
  unfold meetO at h
  dsimp only at h
  split at h
  ·rename_i e
   right
   unfold meet
   dsimp only
   rw [if_pos e]
   exact ⟨_, keep_in h, h⟩
  ·exact .inl h
theorem merge_fits {m : Nat} : ∀ {l r : List Mo}, mergeO m l r = true → (∃ x ∈ l, ovQ m x.2 = true) ∨ ∃ y ∈ merge l r, ovQ m y.2 = true
 | [], r, h => by simp [mergeO] at h
 | x :: l, r, h => by
  simp only [mergeO, Bool.or_eq_true] at h
  rcases h with h | h
  ·rcases meet_fits h with h | ⟨y, hy, h⟩
   ·exact .inl ⟨x, by simp, h⟩
   ·exact .inr ⟨y, by simp only [merge, step1, List.mem_append]; exact .inl (.inr hy), h⟩
  ·rcases merge_fits h with ⟨y, hy, h⟩ | ⟨y, hy, h⟩
   ·exact .inl ⟨y, by simp [hy], h⟩
   ·exact .inr ⟨y, by simp only [merge, List.mem_append]; exact .inr hy, h⟩
theorem over_fits {m : Nat} {c1 c2 k : Rat} {l r : List Mo} (h1 : Fit l) (h2 : Fit r) (h : addO m false c1 l k c2 r = true) :
    fitsP m (0 + k * c2) (refAdd [] k r) = false ∨ fitsP m (c1 + k * c2) (refAdd l k r) = false ∨ fitsP m c1 l = false := by
 unfold addO at h
 simp only [Bool.false_or, Bool.or_eq_true] at h
 rcases h with ((h | h) | h) | h
 ·exact .inl (fits_no (.inl (by rw [Rat.zero_add]; exact h)))
 ·refine .inl (fits_no (.inr ?_))
  rw [← scale_ref h2]
  obtain ⟨x, hx, h⟩ := List.any_eq_true.1 h
  exact ⟨_, List.mem_flatMap.2 ⟨x, hx, keep_in h⟩, h⟩
 ·exact .inr (.inl (fits_no (.inl h)))
 ·rcases merge_fits h with ⟨x, hx, h⟩ | ⟨y, hy, h⟩
  ·exact .inr (.inr (fits_no (.inr ⟨x, hx, h⟩)))
  ·rw [merge_ref h1 h2] at hy
   exact .inr (.inl (fits_no (.inr ⟨y, hy, h⟩)))
theorem pols3 {W : World} {g : Nat} {t : TypeId} {ps qs ks : Bool} {pa pb pm qa qb qm ka kb : Option Addr} {pc pe pn qc qe qn kc ke : Nat} {px pd qx qd kx kd : List Nat} {phs qhs : List HM} (h : W.heap[g]? = some (.cells #[.bool ps, .slice pa px.length pc, .slice pb pd.length pe, .slice pm phs.length pn, .bool qs, .slice qa qx.length qc, .slice qb qd.length qe, .slice qm qhs.length qn, .bool ks, .slice ka kx.length kc, .slice kb kd.length ke, .slice none 0 0] t (0, 0))) : Pols W g [(⟨ps, pa, pc, px, pb, pe, pd, pm, pn, phs⟩ : HPo), (⟨qs, qa, qc, qx, qb, qe, qd, qm, qn, qhs⟩ : HPo), (⟨ks, ka, kc, kx, kb, ke, kd, none, 0, []⟩ : HPo)] := fun k p hk j u hu => by
 rcases k with _ | _ | _ | k
 ·simp at hk; subst hk
  rcases j with _ | _ | _ | _ | j <;> simp [HPo.cells] at hu <;> subst hu <;> simp [World.cell?, h]
 ·simp at hk; subst hk
  rcases j with _ | _ | _ | _ | j <;> simp [HPo.cells] at hu <;> subst hu <;> simp [World.cell?, h]
 ·simp at hk; subst hk
  rcases j with _ | _ | _ | _ | j <;> simp [HPo.cells] at hu <;> subst hu <;> simp [World.cell?, h]
 ·simp at hk
structure Sq (W5 : World) (P : Option Nat) (V : World → Prop) (W : World) : Prop where
 r : Below W5.heap.size W5 W
 p : ∀ g, P = some g → W5.heap.size ≤ g ∧ W.heap[g]? = some (.cells #[.bool false, .slice none 0 0, .slice none 0 0, .slice none 0 0] 30 (0, 0))
 v : ∀ W', Below W.heap.size W W' → V W'
theorem Sq.step {W5 W W' : World} {P : Option Nat} {V V' : World → Prop} (h : Sq W5 P V W) (k : Below W.heap.size W W') (v : ∀ X, Below W'.heap.size W' X → V' X) : Sq W5 P V' W' :=
 ⟨h.r.trans (k.mono h.r.size), fun g e => ⟨(h.p g e).1, stayL (h.p g e).2 k⟩, v⟩
theorem Sq.now {W5 W : World} {P : Option Nat} {V : World → Prop} (h : Sq W5 P V W) : V W := h.v _ (Below.refl _ _)
theorem Sq.alloc {W5 W : World} {V : World → Prop} (h : Sq W5 none V W) : Sq W5 (some W.heap.size) V (W.alloc (.cells #[.bool false, .slice none 0 0, .slice none 0 0, .slice none 0 0] 30)) := by
 have k := (Below.refl W.heap.size W).alloc (Nat.le_refl _) (.cells #[.bool false, .slice none 0 0, .slice none 0 0, .slice none 0 0] 30)
 have hs := h.step k (fun X hX => h.v X (k.trans (hX.mono k.size)))
 exact ⟨hs.r, fun g e => by cases e; exact ⟨h.r.size, heap_alloc_new W _⟩, hs.v⟩
structure SqI where
 P : Nat
 d : RawR
 v : RawR
 a : Option Addr
 rs : List RM
 cp : Nat
structure SqAt (W5 : World) (c : Rat) (ms : List Mo) (i : SqI) (W : World) : Prop where
 r : Below W5.heap.size W5 W
 ge : W5.heap.size ≤ i.P
 blk : W.heap[i.P]? = some (.cells #[.bool i.v.1, .slice i.v.2.1.1 i.v.2.1.2.1 i.v.2.1.2.2, .slice i.v.2.2.1 i.v.2.2.2.1 i.v.2.2.2.2, .slice i.a i.rs.length i.cp] 30 (0, 0))
 poly : PolyAt c ms i.v i.a i.rs W
theorem sq_end {W5 W : World} {P : Nat} {c : Rat} {ms : List Mo} {d : RawR} {s : Bool} {z1 z2 a : Option Addr} {m1 k1 m2 k2 cp : Nat} {rs : List RM} (h : Sq W5 (some P) (PolyAt c ms (s, (z1, m1, k1), (z2, m2, k2)) a rs) W) :
    SqAt W5 c ms ⟨P, d, (s, (z1, m1, k1), (z2, m2, k2)), a, rs, cp⟩ (putL4 W P (.bool s) (.slice z1 m1 k1) (.slice z2 m2 k2) (.slice a rs.length cp)) := by
 obtain ⟨p1, p2⟩ := h.p _ rfl
 have hg := putL4_grown W P (.bool s) (.slice z1 m1 k1) (.slice z2 m2 k2) (.slice a rs.length cp)
 exact ⟨h.r.grown hg h.r.size (fun j hj => by cases hj; exact p1), p1, putL4_block p2 _ _ _ _, h.now.past (poly_noI p2) hg⟩
theorem sq_of {W5 W : World} {P : Option Nat} {q : Rat} {s : Bool} {z1 z2 : Option Addr} {m1 k1 m2 k2 : Nat} (hv : VQ q (s, (z1, m1, k1), (z2, m2, k2)) W5) (hs : szQ q ≤ 100) (h : Sq W5 P (fun _ => True) W) :
    Calls Tryz.prog 14 #[.agg #[.bool s, .slice z1 m1 k1, .slice z2 m2 k2]] W (fun e W' => ∃ s z1 m1 k1 z2 m2 k2, e = .returned (.agg #[.bool s, .slice z1 m1 k1, .slice z2 m2 k2]) ∧ Hid (Sq W5 P (VD q (s, (z1, m1, k1), (z2, m2, k2))) W')) :=
 (got_of (W5 := W) (hv.kept h.r) hs (Below.refl _ _)).mono fun e W' hg => by
  obtain ⟨s, z1, m1, k1, z2, m2, k2, rfl, hb, hd⟩ := hg
  exact ⟨_, _, _, _, _, _, _, rfl, Lib.hid (h.step hb.out fun X hX => hd.out.kept hX)⟩
theorem sq_add {W5 W : World} {P : Option Nat} {k c1 c2 : Rat} {ms1 ms2 : List Mo} {ps : Bool} {pa pb : Option Addr} {pl pc pk pe : Nat} {ks : Bool} {ka kb : Option Addr} {kl kc kk ke : Nat} {qs : Bool} {qa qb : Option Addr} {ql qc qk qe : Nat} {a1 a2 : Option Addr} {cp1 cp2 n1 n2 : Nat} {rs1 rs2 : List RM}
    (hp : PolyAt c1 ms1 (ps, (pa, pl, pc), (pb, pk, pe)) a1 rs1 W5) (hq : PolyAt c2 ms2 (qs, (qa, ql, qc), (qb, qk, qe)) a2 rs2 W5) (zk : szQ k ≤ 20) (z1 : szQ c1 ≤ 20) (zm1 : ∀ x ∈ ms1, szQ x.2 ≤ 20) (z2 : szQ c2 ≤ 20) (zm2 : ∀ x ∈ ms2, szQ x.2 ≤ 20) (hn1 : rs1.length ≤ 500) (hn2 : rs2.length ≤ 500) (e1 : rs1.length = n1) (e2 : rs2.length = n2)
    (h : Sq W5 P (VD k (ks, (ka, kl, kc), (kb, kk, ke))) W) :
    Calls Tryz.prog 17 #[.agg #[.bool ps, .slice pa pl pc, .slice pb pk pe, .slice a1 n1 cp1], .agg #[.bool ks, .slice ka kl kc, .slice kb kk ke], .agg #[.bool qs, .slice qa ql qc, .slice qb qk qe, .slice a2 n2 cp2]] W (fun e W' => ∃ s z1 m1 k1 z2 m2 k2 a cp rs, e = .returned (.agg #[.bool s, .slice z1 m1 k1, .slice z2 m2 k2, .slice a (List.length rs) cp]) ∧ Hid (Sq W5 P (PolyAt (c1 + k * c2) (refAdd ms1 k ms2) (s, (z1, m1, k1), (z2, m2, k2)) a rs) W')) := by
 subst e1 e2
 refine (RAdd_any (cp1 := cp1) (cp2 := cp2) (hp.kept h.r) h.now (hq.kept h.r) zk z1 zm1 z2 zm2 hn1 hn2).mono fun e W' hg => ?_
 obtain ⟨s, z1, m1, k1, z2, m2, k2, a, cp, rs, rfl, hb, hd⟩ := hg
 exact ⟨_, _, _, _, _, _, _, _, _, _, rfl, Lib.hid (h.step hb.out fun X hX => hd.out.kept hX)⟩
theorem SmP.plain {W : World} {ps : Bool} {pa pb pm : Option Addr} {pc pe pn : Nat} {px pd : List Nat} {phs : List HM} (h : SmP W (⟨ps, pa, pc, px, pb, pe, pd, pm, pn, phs⟩ : HPo)) :
    ∃ c ms rs, List.length rs = phs.length ∧ PolyAt c ms (ps, (pa, px.length, pc), (pb, pd.length, pe)) pm rs W ∧ Fit ms ∧ szQ c ≤ 6 ∧ (∀ x ∈ ms, szQ x.2 ≤ 6) ∧ phs.length ≤ 12 ∧ (∀ x ∈ ms, 0 ≤ x.1) ∧ ms.length = phs.length :=
 ⟨_, _, _, by simp [HPo.rms], h.poly, h.fit, h.zc, h.zm, h.len, h.pos, by simp [HPo.mos]⟩
theorem SmP.plainK {W : World} {ks : Bool} {ka kb : Option Addr} {kc ke : Nat} {kx kd : List Nat} (h : SmP W (⟨ks, ka, kc, kx, kb, ke, kd, none, 0, []⟩ : HPo)) : ∃ k, VQ k (ks, (ka, kx.length, kc), (kb, kd.length, ke)) W ∧ szQ k ≤ 6 := ⟨_, h.poly.num, h.zc⟩
theorem add_sm {w : World} {b m : Nat} {o : Bool} {k c1 c2 : Rat} {ms1 ms2 : List Mo} {ps : Bool} {pa pb : Option Addr} {pl pc pk pe : Nat} {ks : Bool} {ka kb : Option Addr} {kl kc kk ke : Nat} {qs : Bool} {qa qb : Option Addr} {ql qc qk qe : Nat} {a1 a2 : Option Addr} {cp1 cp2 n1 n2 : Nat} {rs1 rs2 : List RM} (hB : Bench w b m o) (hT : Tab w)
    (hp : PolyAt c1 ms1 (ps, (pa, pl, pc), (pb, pk, pe)) a1 rs1 w) (hk : VQ k (ks, (ka, kl, kc), (kb, kk, ke)) w) (hq : PolyAt c2 ms2 (qs, (qa, ql, qc), (qb, qk, qe)) a2 rs2 w) (zk : szQ k ≤ 6) (z1 : szQ c1 ≤ 6) (zm1 : ∀ x ∈ ms1, szQ x.2 ≤ 6) (z2 : szQ c2 ≤ 6) (zm2 : ∀ x ∈ ms2, szQ x.2 ≤ 6) (l1 : n1 ≤ 12) (l2 : n2 ≤ 12) (e1 : rs1.length = n1) (e2 : rs2.length = n2) :
    Calls Tryz.prog 16 #[.pointer (some ⟨b, 0, none⟩), .agg #[.bool ps, .slice pa pl pc, .slice pb pk pe, .slice a1 n1 cp1], .agg #[.bool ks, .slice ka kl kc, .slice kb kk ke], .agg #[.bool qs, .slice qa ql qc, .slice qb qk qe, .slice a2 n2 cp2]] w (GotP b m (addO m o c1 ms1 k c2 ms2) w (c1 + k * c2) (merge ms1 (scale k ms2))) := by
 subst e1 e2
 exact Add_p hB hT hp hk hq (by omega) (by omega) (fun x hx => by have := zm1 x hx; omega) (by omega) (fun x hx => by have := zm2 x hx; omega) (by omega) (by omega)
theorem addC_sz {k c1 c2 : Rat} (zk : szQ k ≤ 6) (z1 : szQ c1 ≤ 6) (z2 : szQ c2 ≤ 6) : szQ (c1 + k * c2) ≤ 24 := by
 have h1 := szQ_add c1 (k * c2)
 have h2 := szQ_mul k c2
 omega
theorem refAdd_sz {k : Rat} {l r : List Mo} (zk : szQ k ≤ 6) (z1 : ∀ x ∈ l, szQ x.2 ≤ 6) (z2 : ∀ x ∈ r, szQ x.2 ≤ 6) : ∀ x ∈ refAdd l k r, szQ x.2 ≤ 24 := by
 intro x hx
 obtain ⟨v, hv, h1⟩ := List.mem_flatMap.1 hx
 unfold keep at h1
 split at h1
 ·simp at h1
 ·simp at h1
  rw [h1]
  exact addC_sz zk (coef_sz z1 v) (coef_sz z2 v)
theorem addR_len {k : Rat} {l r : List Mo} (h1 : Fit l) (h2 : Fit r) : (refAdd l k r).length ≤ l.length + r.length := by
 rw [← merge_ref h1 h2]
 have := merge_len l (scale k r)
 have := scale_len k r
 omega
theorem cells11 {W : World} {g : Nat} {ps qs ks : Bool} {pa pb pm qa qb qm ka kb : Option Addr} {pl pc pk pe pj pn ql qc qk qe qj qn kl kc kk ke : Nat} {t1 t2 t3 : TypeId} (b0 : W.heap[g]? = some (.cells #[.bool ps, .slice pa pl pc, .slice pb pk pe, .slice pm pj pn] t1 (0, 0))) (b1 : W.heap[g + 1]? = some (.cells #[.bool qs, .slice qa ql qc, .slice qb qk qe, .slice qm qj qn] t2 (0, 0))) (b2 : W.heap[g + 1 + 1]? = some (.cells #[.bool ks, .slice ka kl kc, .slice kb kk ke] t3 (0, 0))) :
    W.cell? ⟨g, 0, none⟩ = some (.bool ps) ∧ W.cell? ⟨g, 1, none⟩ = some (.slice pa pl pc) ∧ W.cell? ⟨g, 2, none⟩ = some (.slice pb pk pe) ∧ W.cell? ⟨g, 3, none⟩ = some (.slice pm pj pn) ∧
    W.cell? ⟨g + 1, 0, none⟩ = some (.bool qs) ∧ W.cell? ⟨g + 1, 1, none⟩ = some (.slice qa ql qc) ∧ W.cell? ⟨g + 1, 2, none⟩ = some (.slice qb qk qe) ∧ W.cell? ⟨g + 1, 3, none⟩ = some (.slice qm qj qn) ∧
    W.cell? ⟨g + 1 + 1, 0, none⟩ = some (.bool ks) ∧ W.cell? ⟨g + 1 + 1, 1, none⟩ = some (.slice ka kl kc) ∧ W.cell? ⟨g + 1 + 1, 2, none⟩ = some (.slice kb kk ke) := by
 obtain ⟨x0, x1, x2, x3, _⟩ := cellsL4 b0
 obtain ⟨y0, y1, y2, y3, _⟩ := cellsL4 b1
 obtain ⟨z0, z1, z2, _⟩ := cells3 b2
 exact ⟨x0, x1, x2, x3, y0, y1, y2, y3, z0, z1, z2⟩
def Three (W : World) (g : Nat) (C1 C2 C3 : Array Value) : Prop := W.heap[g]? = some (.cells C1 30 (0, 0)) ∧ W.heap[g + 1]? = some (.cells C2 30 (0, 0)) ∧ W.heap[g + 1 + 1]? = some (.cells C3 27 (0, 0))
theorem Three.kept {W W' : World} {g : Nat} {C1 C2 C3 : Array Value} (h : Three W g C1 C2 C3) (k : Below W.heap.size W W') : Three W' g C1 C2 C3 := ⟨stayL h.1 k, stayL h.2.1 k, stayL h.2.2 k⟩
theorem Three.bench {W W' : World} {g b m : Nat} {o : Bool} {C1 C2 C3 : Array Value} (h : Three W g C1 C2 C3) (k : BR b m o W W') (hb : g + 1 + 1 < b) : Three W' g C1 C2 C3 := ⟨k.block h.1 (by omega), k.block h.2.1 (by omega), k.block h.2.2 (by omega)⟩
theorem zero_at (W : World) : PolyAt 0 [] (false, (none, 0, 0), (none, 0, 0)) none [] W := ⟨VQ.zero W, MsAt.nil W none⟩
theorem same_sm {w : World} {c1 c2 : Rat} {ms1 ms2 : List Mo} {ps : Bool} {pa pb : Option Addr} {pl pc pk pe : Nat} {qs : Bool} {qa qb : Option Addr} {ql qc qk qe : Nat} {a1 a2 : Option Addr} {cp1 cp2 n1 n2 : Nat} {rs1 rs2 : List RM}
    (hp : PolyAt c1 ms1 (ps, (pa, pl, pc), (pb, pk, pe)) a1 rs1 w) (hq : PolyAt c2 ms2 (qs, (qa, ql, qc), (qb, qk, qe)) a2 rs2 w) (z1 : szQ c1 ≤ 100) (zm : ∀ x ∈ ms1, szQ x.2 ≤ 100) (hn1 : ms1.length ≤ 100) (hn2 : ms2.length ≤ 100) (e1 : rs1.length = n1) (e2 : rs2.length = n2) (he : c1 = c2 ∧ ms1 = ms2) :
    Calls Tryz.prog 15 #[.agg #[.bool ps, .slice pa pl pc, .slice pb pk pe, .slice a1 n1 cp1], .agg #[.bool qs, .slice qa ql qc, .slice qb qk qe, .slice a2 n2 cp2]] w (GivesV (.bool true) w) := by
 subst e1 e2
 have := RSame_any (cp1 := cp1) (cp2 := cp2) hp hq (by omega) (fun x hx => by have := zm x hx; omega) (by have := hp.ms.len; omega) (by have := hq.ms.len; omega)
 rwa [decide_eq_true he] at this
theorem fits_sm {w : World} {c : Rat} {ms : List Mo} {ps : Bool} {pa pb : Option Addr} {pl pc pk pe : Nat} {a : Option Addr} {cp m n : Nat} {rs : List RM}
    (hp : PolyAt c ms (ps, (pa, pl, pc), (pb, pk, pe)) a rs w) (z : szQ c ≤ 100) (zm : ∀ x ∈ ms, szQ x.2 ≤ 100) (hn : ms.length ≤ 100) (hm : m ≤ maxLen) (e : rs.length = n) :
    Calls Tryz.prog 29 #[.agg #[.bool ps, .slice pa pl pc, .slice pb pk pe, .slice a n cp], .int .i64 (m : Int)] w (GivesV (.bool (fitsP m c ms)) w) := by
 subst e
 unfold maxLen at hm
 exact RFits_any hp (by omega) (fun x hx => by have := zm x hx; omega) (by have := hp.ms.len; omega) (by omega)
set_option maxRecDepth 100000 in
set_option maxHeartbeats 16000000 in
theorem over12_walk {w : World} {ps qs ks : Bool} {pa pb pm qa qb qm ka kb : Option Addr} {pc pe pn qc qe qn kc ke : Nat} {px pd qx qd kx kd : List Nat} {phs qhs : List HM} {limbs : Int}
    (hp : HandPo w (⟨ps, pa, pc, px, pb, pe, pd, pm, pn, phs⟩ : HPo)) (hq : HandPo w (⟨qs, qa, qc, qx, qb, qe, qd, qm, qn, qhs⟩ : HPo)) (hk : HandPo w (⟨ks, ka, kc, kx, kb, ke, kd, none, 0, []⟩ : HPo)) (hT : Tab w) (hli : limbs ≤ 9223372036854775807) :
    Calls Tryz.prog 5 #[.agg #[.bool ps, .slice pa px.length pc, .slice pb pd.length pe, .slice pm phs.length pn], .agg #[.bool qs, .slice qa qx.length qc, .slice qb qd.length qe, .slice qm qhs.length qn], .agg #[.bool ks, .slice ka kx.length kc, .slice kb kd.length ke], .int .i64 limbs] w (Holds w) := by
 obtain ⟨W0, hW0, hB0, b0, b1, b2, hsz⟩ := boxes3 w #[.bool ps, .slice pa px.length pc, .slice pb pd.length pe, .slice pm phs.length pn] #[.bool qs, .slice qa qx.length qc, .slice qb qd.length qe, .slice qm qhs.length qn] #[.bool ks, .slice ka kx.length kc, .slice kb kd.length ke] 30 30 27
 have HSP := Lib.hid (speaks12 (hT.kept hB0))
 have HKX0 : Hid (∀ W, Below W0.heap.size W0 W → (W.cell? ⟨w.heap.size, 0, none⟩ = some (.bool ps) ∧ W.cell? ⟨w.heap.size, 1, none⟩ = some (.slice pa px.length pc) ∧ W.cell? ⟨w.heap.size, 2, none⟩ = some (.slice pb pd.length pe) ∧ W.cell? ⟨w.heap.size, 3, none⟩ = some (.slice pm phs.length pn) ∧ W.cell? ⟨w.heap.size + 1, 0, none⟩ = some (.bool qs) ∧ W.cell? ⟨w.heap.size + 1, 1, none⟩ = some (.slice qa qx.length qc) ∧ W.cell? ⟨w.heap.size + 1, 2, none⟩ = some (.slice qb qd.length qe) ∧ W.cell? ⟨w.heap.size + 1, 3, none⟩ = some (.slice qm qhs.length qn) ∧ W.cell? ⟨w.heap.size + 1 + 1, 0, none⟩ = some (.bool ks) ∧ W.cell? ⟨w.heap.size + 1 + 1, 1, none⟩ = some (.slice ka kx.length kc) ∧ W.cell? ⟨w.heap.size + 1 + 1, 2, none⟩ = some (.slice kb kd.length ke))) := Lib.hid fun W h => by
  obtain ⟨x0, x1, x2, x3, _⟩ := cellsL4 (stayL b0 h)
  obtain ⟨y0, y1, y2, y3, _⟩ := cellsL4 (stayL b1 h)
  obtain ⟨z0, z1, z2, _⟩ := cells3 (stayL b2 h)
  exact ⟨x0, x1, x2, x3, y0, y1, y2, y3, z0, z1, z2⟩
 have HW0 := Lib.hid hW0
 have HTH : Hid (Three W0 w.heap.size #[.bool ps, .slice pa px.length pc, .slice pb pd.length pe, .slice pm phs.length pn] #[.bool qs, .slice qa qx.length qc, .slice qb qd.length qe, .slice qm qhs.length qn] #[.bool ks, .slice ka kx.length kc, .slice kb kd.length ke]) := Lib.hid ⟨b0, b1, b2⟩
 have HSZ := Lib.hid hsz
 have HB0 := Lib.hid (And.intro hB0 (hT.kept hB0))
 have HP := Lib.hid (hp.kept hB0)
 have HQ := Lib.hid (hq.kept hB0)
 have HHK := Lib.hid (hk.kept hB0)
 obtain ⟨p0, p1, p2, p3, q0, q1, q2, q3, r0, r1, r2⟩ := HKX0.out _ (Below.refl _ _)
 rw [hW0] at p0 p1 p2 p3 q0 q1 q2 q3 r0 r1 r2
 clear hW0 hB0 b0 b1 b2 hsz hp hq hk hT
 go_enter Tryz.func5, Tryz.ntmps5
 go_wp2_with fail
 rw [← HW0.out]
 refine HSP.out.mono ?_
 rintro e w1 ⟨rfl, hb1⟩
 clear p0 p1 p2 p3 q0 q1 q2 q3 r0 r1 r2
 obtain ⟨p0, p1, p2, p3, q0, q1, q2, q3, r0, r1, r2⟩ := HKX0.out _ hb1
 have hal := (Below.refl w1.heap.size w1).alloc (Nat.le_refl _) (.cells #[.bool ps, .slice pa px.length pc, .slice pb pd.length pe, .slice pm phs.length pn, .bool qs, .slice qa qx.length qc, .slice qb qd.length qe, .slice qm qhs.length qn, .bool ks, .slice ka kx.length kc, .slice kb kd.length ke, .slice none 0 0] 30)
 have hb2 := hb1.trans (hal.mono hb1.size)
 have HB2 := Lib.hid hb2
 have HOD := Lib.hid (Odd12_any w1.heap.size 3 [(⟨ps, pa, pc, px, pb, pe, pd, pm, pn, phs⟩ : HPo), (⟨qs, qa, qc, qx, qb, qe, qd, qm, qn, qhs⟩ : HPo), (⟨ks, ka, kc, kx, kb, ke, kd, none, 0, []⟩ : HPo)] (w1.alloc (.cells #[.bool ps, .slice pa px.length pc, .slice pb pd.length pe, .slice pm phs.length pn, .bool qs, .slice qa qx.length qc, .slice qb qd.length qe, .slice qm qhs.length qn, .bool ks, .slice ka kx.length kc, .slice kb kd.length ke, .slice none 0 0] 30)) (pols3 (heap_alloc_new w1 _)) (by
  intro p hp
  simp only [List.mem_cons, List.not_mem_nil, or_false] at hp
  rcases hp with rfl | rfl | rfl
  ·exact HP.out.kept hb2
  ·exact HQ.out.kept hb2
  ·exact HHK.out.kept hb2) (by simp) (by simp))
 clear hal hb2 hb1 HSP
 cases hodd : [(⟨ps, pa, pc, px, pb, pe, pd, pm, pn, phs⟩ : HPo), (⟨qs, qa, qc, qx, qb, qe, qd, qm, qn, qhs⟩ : HPo), (⟨ks, ka, kc, kx, kb, ke, kd, none, 0, []⟩ : HPo)].any oddPo
 case true =>
  rw [hodd] at HOD
  clear hodd
  go_wp2_with fail
  refine HOD.out.mono ?_
  rintro e w2 ⟨rfl, hb⟩
  have HE := Lib.hid (HB0.out.1.trans ((HB2.out.trans (hb.mono HB2.out.size)).mono HB0.out.1.size))
  clear hb HOD p0 p1 p2 p3 q0 q1 q2 q3 r0 r1 r2
  go_wp2_with fail
  go_ret
  exact ⟨rfl, HE.out⟩
 case false =>
 rw [hodd] at HOD
 obtain ⟨o1, o2, o3⟩ : oddPo (⟨ps, pa, pc, px, pb, pe, pd, pm, pn, phs⟩ : HPo) = false ∧ oddPo (⟨qs, qa, qc, qx, qb, qe, qd, qm, qn, qhs⟩ : HPo) = false ∧ oddPo (⟨ks, ka, kc, kx, kb, ke, kd, none, 0, []⟩ : HPo) = false := by
  simp only [List.any_cons, List.any_nil, Bool.or_false, Bool.or_eq_false_iff] at hodd
  exact hodd
 have HS1 := Lib.hid (not_odd12 HP.out o1)
 have HS2 := Lib.hid (not_odd12 HQ.out o2)
 have HS3 := Lib.hid (not_odd12 HHK.out o3)
 clear hodd o1 o2 o3
 go_wp2_with fail
 refine HOD.out.mono ?_
 rintro e w2 ⟨rfl, hb⟩
 have hb2 := HB2.out.trans (hb.mono HB2.out.size)
 obtain ⟨m, hm1, hm2, hmx, HNW⟩ := new_for limbs hli
 have HNW := Lib.hid (HNW w2)
 have HB3 := Lib.hid hb2
 clear hb hb2 HOD HB2 p0 p1 p2 p3 q0 q1 q2 q3 r0 r1 r2
 obtain ⟨c1, ms1, rs1, e1, hp1, f1, z1, zm1, n1, -, v1⟩ := HS1.out.plain
 obtain ⟨c2, ms2, rs2, e2, hp2, f2, z2, zm2, n2, -, v2⟩ := HS2.out.plain
 obtain ⟨k, hk, zk⟩ := HS3.out.plainK
 have HZ := Lib.hid (And.intro zk (And.intro z1 (And.intro zm1 (And.intro z2 (And.intro zm2 (And.intro n1 (And.intro n2 (And.intro e1 (And.intro e2 (And.intro f1 (And.intro f2 (And.intro v1 v2))))))))))))
 have HPS := Lib.hid (And.intro hp1 (And.intro hp2 hk))
 have HM := Lib.hid (And.intro hm1 (And.intro hm2 hmx))
 clear hp1 hp2 hk zk z1 zm1 z2 zm2 n1 n2 e1 e2 f1 f2 v1 v2 HS1 HS2 HS3 HP HQ HHK hm1 hm2 hmx
 go_wp2_with fail
 refine HNW.out.mono ?_
 rintro e w3 ⟨rfl, hw3⟩
 have hal : Below w2.heap.size w2 w3 := by rw [hw3]; exact (Below.refl _ _).alloc (Nat.le_refl _) _
 have hbn : Bench w3 w2.heap.size m false := by rw [hw3]; exact heap_alloc_new w2 _
 have hb3 := HB3.out.trans (hal.mono HB3.out.size)
 have hT3 := HB0.out.2.kept hb3
 have HBN := Lib.hid (And.intro hb3 (BR.refl hbn hT3))
 have HT3 := Lib.hid (HTH.out.kept hb3)
 have HLT : Hid (w.heap.size + 1 + 1 < w2.heap.size) := Lib.hid (by have := HB3.out.size; have := HSZ.out; omega)
 have HPS3 := Lib.hid (And.intro (HPS.out.1.kept hb3) (And.intro (HPS.out.2.1.kept hb3) (HPS.out.2.2.kept hb3)))
 have HADD := Lib.hid (add_sm (cp1 := pn) (cp2 := qn) hbn hT3 HPS3.out.1 HPS3.out.2.2 HPS3.out.2.1 HZ.out.1 HZ.out.2.1 HZ.out.2.2.1 HZ.out.2.2.2.1 HZ.out.2.2.2.2.1 HZ.out.2.2.2.2.2.1 HZ.out.2.2.2.2.2.2.1 HZ.out.2.2.2.2.2.2.2.1 HZ.out.2.2.2.2.2.2.2.2.1)
 obtain ⟨p0, p1, p2, p3, q0, q1, q2, q3, r0, r1, r2⟩ := cells11 HT3.out.1 HT3.out.2.1 HT3.out.2.2
 generalize ho : addO m false c1 ms1 k c2 ms2 = o at HADD
 have HO := Lib.hid ho
 clear hw3 hal hbn hb3 hT3 ho HNW HPS HTH HKX0
 go_wp2_with fail
 refine HADD.out.mono ?_
 rintro e w4 ⟨xs, xa, xl, xc, xb, xk, xe, xm, xn, xr, rfl, hr4, hp4, -, -, -⟩
 clear p0 p1 p2 p3 q0 q1 q2 q3 r0 r1 r2 HADD
 obtain ⟨xj, hxj⟩ : ∃ n, xr.length = n := ⟨_, rfl⟩
 have HXJ := Lib.hid hxj
 have hal := (Below.refl w4.heap.size w4).alloc (Nat.le_refl _) (.cells #[.bool xs, .slice xa xl xc, .slice xb xk xe, .slice xm xj xn] 30)
 obtain ⟨w5, hw5⟩ : ∃ W, W = w4.alloc (.cells #[.bool xs, .slice xa xl xc, .slice xb xk xe, .slice xm xj xn] 30) := ⟨_, rfl⟩
 have hkx := cells_of w4 #[.bool xs, .slice xa xl xc, .slice xb xk xe, .slice xm xj xn] 30
 rw [← hw5] at hal hkx
 have HR5 := Lib.hid (hr4.out.kept hal)
 have HP5 := Lib.hid (hp4.out.kept hal)
 have HT5 := Lib.hid (HT3.out.bench HR5.out HLT.out)
 have HPS5 := Lib.hid (And.intro (HPS3.out.1.bench HBN.out.2.bench HR5.out) (And.intro (HPS3.out.2.1.bench HBN.out.2.bench HR5.out) (HPS3.out.2.2.benchL HBN.out.2.bench HR5.out.g)))
 have HKB : Hid (w5.heap[w4.heap.size]? = _ ∧ w2.heap.size < w4.heap.size) := Lib.hid (And.intro hkx hr4.out.bench.lt)
 have HW5 := Lib.hid hw5
 have HKX : Hid (∀ W, Below w5.heap.size w5 W → (W.cell? ⟨w.heap.size, 0, none⟩ = some (.bool ps) ∧ W.cell? ⟨w.heap.size, 1, none⟩ = some (.slice pa px.length pc) ∧ W.cell? ⟨w.heap.size, 2, none⟩ = some (.slice pb pd.length pe) ∧ W.cell? ⟨w.heap.size, 3, none⟩ = some (.slice pm phs.length pn) ∧ W.cell? ⟨w.heap.size + 1, 0, none⟩ = some (.bool qs) ∧ W.cell? ⟨w.heap.size + 1, 1, none⟩ = some (.slice qa qx.length qc) ∧ W.cell? ⟨w.heap.size + 1, 2, none⟩ = some (.slice qb qd.length qe) ∧ W.cell? ⟨w.heap.size + 1, 3, none⟩ = some (.slice qm qhs.length qn) ∧ W.cell? ⟨w.heap.size + 1 + 1, 0, none⟩ = some (.bool ks) ∧ W.cell? ⟨w.heap.size + 1 + 1, 1, none⟩ = some (.slice ka kx.length kc) ∧ W.cell? ⟨w.heap.size + 1 + 1, 2, none⟩ = some (.slice kb kd.length ke))) := Lib.hid fun W h => by
  have := HT5.out.kept h
  exact cells11 this.1 this.2.1 this.2.2
 rw [hxj]
 clear hw5 hal hkx hr4 hp4 hxj HT3 HPS3
 go_wp2_with fail
 rw [← HW5.out]
 have HOF := Lib.hid (fun (P : Option Nat) (W : World) (h : Sq w5 P (fun _ => True) W) => sq_of HPS5.out.2.2 (by have := HZ.out.1; omega) h)
 have HAD := Lib.hid (fun (P : Option Nat) (W : World) (t : Bool) (y1 : Option Addr) (n1 j1 : Nat) (y2 : Option Addr) (n2 j2 : Nat) (h : Sq w5 P (VD k (t, (y1, n1, j1), (y2, n2, j2))) W) => sq_add (cp1 := pn) (cp2 := qn) HPS5.out.1 HPS5.out.2.1 (by have := HZ.out.1; omega) (by have := HZ.out.2.1; omega) (fun x hx => by have := HZ.out.2.2.1 x hx; omega) (by have := HZ.out.2.2.2.1; omega) (fun x hx => by have := HZ.out.2.2.2.2.1 x hx; omega) (by have := HZ.out; omega) (by have := HZ.out; omega) HZ.out.2.2.2.2.2.2.2.1 HZ.out.2.2.2.2.2.2.2.2.1 h)
 refine wp_region_ex (ι := SqI) (fun i => [(29, .agg #[.bool ps, .slice pa px.length pc, .slice pb pd.length pe, .slice pm phs.length pn]), (30, .agg #[.bool ks, .slice ka kx.length kc, .slice kb kd.length ke]), (31, .agg #[.bool i.d.1, .slice i.d.2.1.1 i.d.2.1.2.1 i.d.2.1.2.2, .slice i.d.2.2.1 i.d.2.2.2.1 i.d.2.2.2.2]), (32, .agg #[.bool qs, .slice qa qx.length qc, .slice qb qd.length qe, .slice qm qhs.length qn]), (33, .agg #[.bool i.v.1, .slice i.v.2.1.1 i.v.2.1.2.1 i.v.2.1.2.2, .slice i.v.2.2.1 i.v.2.2.2.1 i.v.2.2.2.2, .slice i.a i.rs.length i.cp]), (11, .pointer (some ⟨i.P, 0, none⟩))]) (SqAt w5 (c1 + k * c2) (refAdd ms1 k ms2)) ?reg7 ?rest7
 case reg7 =>
  have hI : Hid (Sq w5 none (fun _ => True) w5.drew) := Lib.hid ⟨below_drew w5, by simp, fun _ _ => trivial⟩
  obtain ⟨wl, hw0⟩ : ∃ X, X = w5.drew := ⟨_, rfl⟩
  rw [← hw0] at hI
  refine wp_region_held_drew (S := (fun w' => w'.cell? ⟨w.heap.size, 0, none⟩ = some (.bool ps) ∧ w'.cell? ⟨w.heap.size, 1, none⟩ = some (.slice pa px.length pc) ∧ w'.cell? ⟨w.heap.size, 2, none⟩ = some (.slice pb pd.length pe) ∧ w'.cell? ⟨w.heap.size, 3, none⟩ = some (.slice pm phs.length pn) ∧ w'.cell? ⟨w.heap.size + 1, 0, none⟩ = some (.bool qs) ∧ w'.cell? ⟨w.heap.size + 1, 1, none⟩ = some (.slice qa qx.length qc) ∧ w'.cell? ⟨w.heap.size + 1, 2, none⟩ = some (.slice qb qd.length qe) ∧ w'.cell? ⟨w.heap.size + 1, 3, none⟩ = some (.slice qm qhs.length qn) ∧ w'.cell? ⟨w.heap.size + 1 + 1, 0, none⟩ = some (.bool ks) ∧ w'.cell? ⟨w.heap.size + 1 + 1, 1, none⟩ = some (.slice ka kx.length kc) ∧ w'.cell? ⟨w.heap.size + 1 + 1, 2, none⟩ = some (.slice kb kd.length ke))) (by kernel_rfl) ?_ (fun hHeld => ?_)
  rotate_left 1
  rw [← hw0] at hHeld ⊢; clear hw0
  rotate_left 1
  ·rw [← hw0]; exact HKX.out _ hI.out.r
  refine tkL 0 (v := ?_) ?_ hHeld ?_
  rotate_left 1
  ·intro w' hSw
   (try dsimp only at hSw)
   go_simp
   try with_reducible rfl
  try simp only [Act.put, zA, zB, zC, zD, zE, zF]
  refine tkL 1 (v := ?_) ?_ hHeld ?_
  rotate_left 1
  ·intro w' hSw
   (try dsimp only at hSw)
   go_simp
   try with_reducible rfl
  try simp only [Act.put, zA, zB, zC, zD, zE, zF]
  refine tkL 3 (v := ?_) ?_ hHeld ?_
  rotate_left 1
  ·intro w' hSw
   (try dsimp only at hSw)
   go_simp
   try with_reducible rfl
  try simp only [Act.put, zA, zB, zC, zD, zE, zF]
  refine rdy [2, 5] ?_
  refine AllReadyH.cons (by rfl) (fun K hK => ?_) ?_
  ·go_simp
   refine (HOF.out _ _ hI.out).mono ?_
   clear hI
   rintro e wl ⟨ds, da, dl, dc, db, dk, de, rfl, hI⟩
   refine hK.out _ _ ?_ (fun hHeld => ?_)
   ·exact HKX.out _ hI.out.r
   clear hK K
   try simp only [Act.put, zA, zB, zC, zD, zE, zF]
   refine rdy [4, 5] ?_
   refine AllReadyH.cons (by rfl) (fun K hK => ?_) ?_
   ·go_simp
    refine (HAD.out _ _ _ _ _ _ _ _ _ hI.out).mono ?_
    clear hI
    rintro e wl ⟨ts, ta, tl, tc, tb, tk, te, a9, cp9, rs9, rfl, hI⟩
    refine hK.out _ _ ?_ (fun hHeld => ?_)
    ·exact HKX.out _ hI.out.r
    clear hK K
    try simp only [Act.put, zA, zB, zC, zD, zE, zF]
    refine rdy [5] ?_
    refine AllReadyH.cons (by rfl) (fun K hK => ?_) AllReadyH.nil
    go_simp
    replace hI := Lib.hid hI.out.alloc
    obtain ⟨wz, hw⟩ : ∃ X, X = wl.alloc (.cells #[.bool false, .slice none 0 0, .slice none 0 0, .slice none 0 0] 30) := ⟨_, rfl⟩
    rw [← hw] at hI ⊢; clear hw; generalize wl.heap.size = P at hI ⊢
    obtain ⟨wl, hw⟩ : ∃ X, X = wz := ⟨_, rfl⟩; rw [← hw] at hI ⊢; clear hw
    refine hK.out _ _ ?_ (fun hHeld => ?_)
    ·exact HKX.out _ hI.out.r
    clear hK K
    try simp only [Act.put, zA, zB, zC, zD, zE, zF]
    refine rdy [6] ?_
    refine AllReadyH.cons (by rfl) (fun K hK => ?_) AllReadyH.nil
    obtain ⟨x0, x1, x2, x3, f0, f1, f2, f3⟩ := cellsL4 (hI.out.p _ rfl).2
    go_simp
    change K _ (putL4 wl P (.bool ts) (.slice ta tl tc) (.slice tb tk te) (.slice a9 rs9.length cp9))
    clear x0 x1 x2 x3 f0 f1 f2 f3
    have hE := Lib.hid (sq_end (d := (ds, (da, dl, dc), (db, dk, de))) (cp := cp9) hI.out)
    clear hI
    obtain ⟨wp, hw⟩ : ∃ X, X = putL4 wl P (.bool ts) (.slice ta tl tc) (.slice tb tk te) (.slice a9 rs9.length cp9) := ⟨_, rfl⟩
    rw [← hw] at hE ⊢
    clear hw
    refine hK.out _ _ ?_ (fun hHeld => ?_)
    ·exact HKX.out _ hE.out.r
    clear hK K
    try simp only [Act.put, zA, zB, zC, zD, zE, zF]
    refine wpAnyH_done (by kernel_rfl) ?_ _
    exact ⟨_, by simp only [puts, Act.put, zA, zB, zC, zD, zE, zF], hE.out⟩
   refine AllReadyH.cons (by rfl) (fun K hK => ?_) ?_
   ·go_simp
    replace hI := Lib.hid hI.out.alloc
    obtain ⟨wz, hw⟩ : ∃ X, X = wl.alloc (.cells #[.bool false, .slice none 0 0, .slice none 0 0, .slice none 0 0] 30) := ⟨_, rfl⟩
    rw [← hw] at hI ⊢; clear hw; generalize wl.heap.size = P at hI ⊢
    obtain ⟨wl, hw⟩ : ∃ X, X = wz := ⟨_, rfl⟩; rw [← hw] at hI ⊢; clear hw
    refine hK.out _ _ ?_ (fun hHeld => ?_)
    ·exact HKX.out _ hI.out.r
    clear hK K
    try simp only [Act.put, zA, zB, zC, zD, zE, zF]
    refine rdy [4] ?_
    refine AllReadyH.cons (by rfl) (fun K hK => ?_) AllReadyH.nil
    go_simp
    refine (HAD.out _ _ _ _ _ _ _ _ _ hI.out).mono ?_
    clear hI
    rintro e wl ⟨ts, ta, tl, tc, tb, tk, te, a9, cp9, rs9, rfl, hI⟩
    refine hK.out _ _ ?_ (fun hHeld => ?_)
    ·exact HKX.out _ hI.out.r
    clear hK K
    try simp only [Act.put, zA, zB, zC, zD, zE, zF]
    refine rdy [6] ?_
    refine AllReadyH.cons (by rfl) (fun K hK => ?_) AllReadyH.nil
    obtain ⟨x0, x1, x2, x3, f0, f1, f2, f3⟩ := cellsL4 (hI.out.p _ rfl).2
    go_simp
    change K _ (putL4 wl P (.bool ts) (.slice ta tl tc) (.slice tb tk te) (.slice a9 rs9.length cp9))
    clear x0 x1 x2 x3 f0 f1 f2 f3
    have hE := Lib.hid (sq_end (d := (ds, (da, dl, dc), (db, dk, de))) (cp := cp9) hI.out)
    clear hI
    obtain ⟨wp, hw⟩ : ∃ X, X = putL4 wl P (.bool ts) (.slice ta tl tc) (.slice tb tk te) (.slice a9 rs9.length cp9) := ⟨_, rfl⟩
    rw [← hw] at hE ⊢
    clear hw
    refine hK.out _ _ ?_ (fun hHeld => ?_)
    ·exact HKX.out _ hE.out.r
    clear hK K
    try simp only [Act.put, zA, zB, zC, zD, zE, zF]
    refine wpAnyH_done (by kernel_rfl) ?_ _
    exact ⟨_, by simp only [puts, Act.put, zA, zB, zC, zD, zE, zF], hE.out⟩
   exact AllReadyH.nil
  refine AllReadyH.cons (by rfl) (fun K hK => ?_) ?_
  ·go_simp
   replace hI := Lib.hid hI.out.alloc
   obtain ⟨wz, hw⟩ : ∃ X, X = wl.alloc (.cells #[.bool false, .slice none 0 0, .slice none 0 0, .slice none 0 0] 30) := ⟨_, rfl⟩
   rw [← hw] at hI ⊢; clear hw; generalize wl.heap.size = P at hI ⊢
   obtain ⟨wl, hw⟩ : ∃ X, X = wz := ⟨_, rfl⟩; rw [← hw] at hI ⊢; clear hw
   refine hK.out _ _ ?_ (fun hHeld => ?_)
   ·exact HKX.out _ hI.out.r
   clear hK K
   try simp only [Act.put, zA, zB, zC, zD, zE, zF]
   refine rdy [2] ?_
   refine AllReadyH.cons (by rfl) (fun K hK => ?_) AllReadyH.nil
   go_simp
   refine (HOF.out _ _ hI.out).mono ?_
   clear hI
   rintro e wl ⟨ds, da, dl, dc, db, dk, de, rfl, hI⟩
   refine hK.out _ _ ?_ (fun hHeld => ?_)
   ·exact HKX.out _ hI.out.r
   clear hK K
   try simp only [Act.put, zA, zB, zC, zD, zE, zF]
   refine rdy [4] ?_
   refine AllReadyH.cons (by rfl) (fun K hK => ?_) AllReadyH.nil
   go_simp
   refine (HAD.out _ _ _ _ _ _ _ _ _ hI.out).mono ?_
   clear hI
   rintro e wl ⟨ts, ta, tl, tc, tb, tk, te, a9, cp9, rs9, rfl, hI⟩
   refine hK.out _ _ ?_ (fun hHeld => ?_)
   ·exact HKX.out _ hI.out.r
   clear hK K
   try simp only [Act.put, zA, zB, zC, zD, zE, zF]
   refine rdy [6] ?_
   refine AllReadyH.cons (by rfl) (fun K hK => ?_) AllReadyH.nil
   obtain ⟨x0, x1, x2, x3, f0, f1, f2, f3⟩ := cellsL4 (hI.out.p _ rfl).2
   go_simp
   change K _ (putL4 wl P (.bool ts) (.slice ta tl tc) (.slice tb tk te) (.slice a9 rs9.length cp9))
   clear x0 x1 x2 x3 f0 f1 f2 f3
   have hE := Lib.hid (sq_end (d := (ds, (da, dl, dc), (db, dk, de))) (cp := cp9) hI.out)
   clear hI
   obtain ⟨wp, hw⟩ : ∃ X, X = putL4 wl P (.bool ts) (.slice ta tl tc) (.slice tb tk te) (.slice a9 rs9.length cp9) := ⟨_, rfl⟩
   rw [← hw] at hE ⊢
   clear hw
   refine hK.out _ _ ?_ (fun hHeld => ?_)
   ·exact HKX.out _ hE.out.r
   clear hK K
   try simp only [Act.put, zA, zB, zC, zD, zE, zF]
   refine wpAnyH_done (by kernel_rfl) ?_ _
   exact ⟨_, by simp only [puts, Act.put, zA, zB, zC, zD, zE, zF], hE.out⟩
  exact AllReadyH.nil
 rintro ⟨P, ⟨ds, ⟨da, dl, dc⟩, ⟨db, dk, de⟩⟩, ⟨ts, ⟨ta, tl, tc⟩, ⟨tb, tk, te⟩⟩, a9, rs9, cp9⟩ w6 hS
 simp only [puts, Act.put, zA, zB, zC, zD, zE, zF]
 clear HOF HAD HW5 HKX
 have HR6 := Lib.hid (HR5.out.kept hS.r)
 have HKB6 := Lib.hid (stayL HKB.out.1 hS.r)
 have HP6 := Lib.hid (HP5.out.kept hS.r)
 have HPS6 := Lib.hid (And.intro (HPS5.out.1.kept hS.r) (And.intro (HPS5.out.2.1.kept hS.r) (HPS5.out.2.2.kept hS.r)))
 have HT6 := Lib.hid (HT5.out.kept hS.r)
 have HS6 := Lib.hid (And.intro hS.blk hS.poly)
 have HBW : Hid (Below w.heap.size w w6) := Lib.hid (HR6.out.below (HB0.out.1.trans (HBN.out.1.mono HB0.out.1.size)) (by have := HB0.out.1.size; have := HB3.out.size; omega) (by have := HB0.out.1.size; have := HBN.out.1.size; omega))
 have HZ2 : Hid (szQ (c1 + k * c2) ≤ 100 ∧ (∀ x ∈ refAdd ms1 k ms2, szQ x.2 ≤ 100) ∧ (refAdd ms1 k ms2).length ≤ 100 ∧ merge ms1 (scale k ms2) = refAdd ms1 k ms2) := Lib.hid (by
  obtain ⟨zk, z1, zm1, z2, zm2, n1, n2, e1, e2, f1, f2, v1, v2⟩ := HZ.out
  exact ⟨by have := addC_sz zk z1 z2; omega, fun x hx => by have := refAdd_sz zk zm1 zm2 x hx; omega, by have := addR_len (k := k) f1 f2; omega, merge_ref f1 f2 k⟩)
 have hmx := HM.out.2.2
 have HOV := Lib.hid (over_any w6 w2.heap.size m o HR6.out.bench)
 obtain ⟨j9, hj9⟩ : ∃ n, rs9.length = n := ⟨_, rfl⟩
 have HJ9 := Lib.hid hj9
 rw [hj9] at HS6
 clear hS HR5 HKB HP5 HPS5 HT5 hj9
 go_wp2_with fail
 refine HOV.out.mono ?_
 rintro e w7 ⟨rfl, rfl⟩
 clear HOV hmx
 cases o
 case false =>
  obtain ⟨x0, x1, x2, x3, _⟩ := cellsL4 HKB6.out
  obtain ⟨y0, y1, y2, y3, _⟩ := cellsL4 HS6.out.1
  have HSM := Lib.hid (same_sm (cp1 := xn) (cp2 := cp9) (show PolyAt (c1 + k * c2) (merge ms1 (scale k ms2)) _ _ _ _ from HP6.out) HS6.out.2 HZ2.out.1 (by rw [HZ2.out.2.2.2]; exact HZ2.out.2.1) (by rw [HZ2.out.2.2.2]; exact HZ2.out.2.2.1) HZ2.out.2.2.1 HXJ.out HJ9.out ⟨rfl, HZ2.out.2.2.2⟩)
  try dsimp only at y0 y1 y2 y3
  go_wp2_with fail
  refine HSM.out.mono ?_
  rintro e w8 ⟨rfl, hb8⟩
  have HE := Lib.hid (HBW.out.trans (hb8.mono HBW.out.size))
  clear hb8 HSM x0 x1 x2 x3 y0 y1 y2 y3
  go_wp2_with fail
  go_ret
  exact ⟨rfl, HE.out⟩
 case true =>
 go_wp2_with fail
 have HKX : Hid (∀ W, Below w6.heap.size w6 W → (W.cell? ⟨w.heap.size + 1, 0, none⟩ = some (.bool qs) ∧ W.cell? ⟨w.heap.size + 1, 1, none⟩ = some (.slice qa qx.length qc) ∧ W.cell? ⟨w.heap.size + 1, 2, none⟩ = some (.slice qb qd.length qe) ∧ W.cell? ⟨w.heap.size + 1, 3, none⟩ = some (.slice qm qhs.length qn) ∧ W.cell? ⟨w.heap.size + 1 + 1, 0, none⟩ = some (.bool ks) ∧ W.cell? ⟨w.heap.size + 1 + 1, 1, none⟩ = some (.slice ka kx.length kc) ∧ W.cell? ⟨w.heap.size + 1 + 1, 2, none⟩ = some (.slice kb kd.length ke))) := Lib.hid fun W h => by
  have := HT6.out.kept h
  exact (cells11 this.1 this.2.1 this.2.2).2.2.2.2
 have HOF := Lib.hid (fun (P : Option Nat) (W : World) (h : Sq w6 P (fun _ => True) W) => sq_of HPS6.out.2.2 (by have := HZ.out.1; omega) h)
 have HAD := Lib.hid (fun (P : Option Nat) (W : World) (t : Bool) (y1 : Option Addr) (n1 j1 : Nat) (y2 : Option Addr) (n2 j2 : Nat) (h : Sq w6 P (VD k (t, (y1, n1, j1), (y2, n2, j2))) W) => sq_add (cp1 := 0) (cp2 := qn) (zero_at w6) HPS6.out.2.1 (by have := HZ.out.1; omega) (by rw [szQ_zero]; omega) (by simp) (by have := HZ.out.2.2.2.1; omega) (fun x hx => by have := HZ.out.2.2.2.2.1 x hx; omega) (by simp) (by have := HZ.out; omega) rfl HZ.out.2.2.2.2.2.2.2.2.1 h)
 refine wp_region_ex (ι := SqI) (fun i => [(38, .agg #[.bool false, .slice none 0 0, .slice none 0 0, .slice none 0 0]), (39, .agg #[.bool ks, .slice ka kx.length kc, .slice kb kd.length ke]), (40, .agg #[.bool i.d.1, .slice i.d.2.1.1 i.d.2.1.2.1 i.d.2.1.2.2, .slice i.d.2.2.1 i.d.2.2.2.1 i.d.2.2.2.2]), (41, .agg #[.bool qs, .slice qa qx.length qc, .slice qb qd.length qe, .slice qm qhs.length qn]), (42, .agg #[.bool i.v.1, .slice i.v.2.1.1 i.v.2.1.2.1 i.v.2.1.2.2, .slice i.v.2.2.1 i.v.2.2.2.1 i.v.2.2.2.2, .slice i.a i.rs.length i.cp]), (13, .pointer (some ⟨i.P, 0, none⟩))]) (SqAt w6 (0 + k * c2) (refAdd [] k ms2)) ?reg10 ?rest10
 case reg10 =>
  have hI : Hid (Sq w6 none (fun _ => True) w6.drew) := Lib.hid ⟨below_drew w6, by simp, fun _ _ => trivial⟩
  obtain ⟨wl, hw0⟩ : ∃ X, X = w6.drew := ⟨_, rfl⟩
  rw [← hw0] at hI
  refine wp_region_held_drew (S := (fun w' => w'.cell? ⟨w.heap.size + 1, 0, none⟩ = some (.bool qs) ∧ w'.cell? ⟨w.heap.size + 1, 1, none⟩ = some (.slice qa qx.length qc) ∧ w'.cell? ⟨w.heap.size + 1, 2, none⟩ = some (.slice qb qd.length qe) ∧ w'.cell? ⟨w.heap.size + 1, 3, none⟩ = some (.slice qm qhs.length qn) ∧ w'.cell? ⟨w.heap.size + 1 + 1, 0, none⟩ = some (.bool ks) ∧ w'.cell? ⟨w.heap.size + 1 + 1, 1, none⟩ = some (.slice ka kx.length kc) ∧ w'.cell? ⟨w.heap.size + 1 + 1, 2, none⟩ = some (.slice kb kd.length ke))) (by kernel_rfl) ?_ (fun hHeld => ?_)
  rotate_left 1
  rw [← hw0] at hHeld ⊢; clear hw0
  rotate_left 1
  ·rw [← hw0]; exact HKX.out _ hI.out.r
  refine tkL 0 (v := ?_) ?_ hHeld ?_
  rotate_left 1
  ·intro w' hSw
   (try dsimp only at hSw)
   go_simp
   try with_reducible rfl
  try simp only [Act.put, zA, zB, zC, zD, zE, zF]
  refine tkL 1 (v := ?_) ?_ hHeld ?_
  rotate_left 1
  ·intro w' hSw
   (try dsimp only at hSw)
   go_simp
   try with_reducible rfl
  try simp only [Act.put, zA, zB, zC, zD, zE, zF]
  refine tkL 3 (v := ?_) ?_ hHeld ?_
  rotate_left 1
  ·intro w' hSw
   (try dsimp only at hSw)
   go_simp
   try with_reducible rfl
  try simp only [Act.put, zA, zB, zC, zD, zE, zF]
  refine rdy [2, 5] ?_
  refine AllReadyH.cons (by rfl) (fun K hK => ?_) ?_
  ·go_simp
   refine (HOF.out _ _ hI.out).mono ?_
   clear hI
   rintro e wl ⟨ds, da, dl, dc, db, dk, de, rfl, hI⟩
   refine hK.out _ _ ?_ (fun hHeld => ?_)
   ·exact HKX.out _ hI.out.r
   clear hK K
   try simp only [Act.put, zA, zB, zC, zD, zE, zF]
   refine rdy [4, 5] ?_
   refine AllReadyH.cons (by rfl) (fun K hK => ?_) ?_
   ·go_simp
    refine (HAD.out _ _ _ _ _ _ _ _ _ hI.out).mono ?_
    clear hI
    rintro e wl ⟨ts, ta, tl, tc, tb, tk, te, a9, cp9, rs9, rfl, hI⟩
    refine hK.out _ _ ?_ (fun hHeld => ?_)
    ·exact HKX.out _ hI.out.r
    clear hK K
    try simp only [Act.put, zA, zB, zC, zD, zE, zF]
    refine rdy [5] ?_
    refine AllReadyH.cons (by rfl) (fun K hK => ?_) AllReadyH.nil
    go_simp
    replace hI := Lib.hid hI.out.alloc
    obtain ⟨wz, hw⟩ : ∃ X, X = wl.alloc (.cells #[.bool false, .slice none 0 0, .slice none 0 0, .slice none 0 0] 30) := ⟨_, rfl⟩
    rw [← hw] at hI ⊢; clear hw; generalize wl.heap.size = P at hI ⊢
    obtain ⟨wl, hw⟩ : ∃ X, X = wz := ⟨_, rfl⟩; rw [← hw] at hI ⊢; clear hw
    refine hK.out _ _ ?_ (fun hHeld => ?_)
    ·exact HKX.out _ hI.out.r
    clear hK K
    try simp only [Act.put, zA, zB, zC, zD, zE, zF]
    refine rdy [6] ?_
    refine AllReadyH.cons (by rfl) (fun K hK => ?_) AllReadyH.nil
    obtain ⟨x0, x1, x2, x3, f0, f1, f2, f3⟩ := cellsL4 (hI.out.p _ rfl).2
    go_simp
    change K _ (putL4 wl P (.bool ts) (.slice ta tl tc) (.slice tb tk te) (.slice a9 rs9.length cp9))
    clear x0 x1 x2 x3 f0 f1 f2 f3
    have hE := Lib.hid (sq_end (d := (ds, (da, dl, dc), (db, dk, de))) (cp := cp9) hI.out)
    clear hI
    obtain ⟨wp, hw⟩ : ∃ X, X = putL4 wl P (.bool ts) (.slice ta tl tc) (.slice tb tk te) (.slice a9 rs9.length cp9) := ⟨_, rfl⟩
    rw [← hw] at hE ⊢
    clear hw
    refine hK.out _ _ ?_ (fun hHeld => ?_)
    ·exact HKX.out _ hE.out.r
    clear hK K
    try simp only [Act.put, zA, zB, zC, zD, zE, zF]
    refine wpAnyH_done (by kernel_rfl) ?_ _
    exact ⟨_, by simp only [puts, Act.put, zA, zB, zC, zD, zE, zF], hE.out⟩
   refine AllReadyH.cons (by rfl) (fun K hK => ?_) ?_
   ·go_simp
    replace hI := Lib.hid hI.out.alloc
    obtain ⟨wz, hw⟩ : ∃ X, X = wl.alloc (.cells #[.bool false, .slice none 0 0, .slice none 0 0, .slice none 0 0] 30) := ⟨_, rfl⟩
    rw [← hw] at hI ⊢; clear hw; generalize wl.heap.size = P at hI ⊢
    obtain ⟨wl, hw⟩ : ∃ X, X = wz := ⟨_, rfl⟩; rw [← hw] at hI ⊢; clear hw
    refine hK.out _ _ ?_ (fun hHeld => ?_)
    ·exact HKX.out _ hI.out.r
    clear hK K
    try simp only [Act.put, zA, zB, zC, zD, zE, zF]
    refine rdy [4] ?_
    refine AllReadyH.cons (by rfl) (fun K hK => ?_) AllReadyH.nil
    go_simp
    refine (HAD.out _ _ _ _ _ _ _ _ _ hI.out).mono ?_
    clear hI
    rintro e wl ⟨ts, ta, tl, tc, tb, tk, te, a9, cp9, rs9, rfl, hI⟩
    refine hK.out _ _ ?_ (fun hHeld => ?_)
    ·exact HKX.out _ hI.out.r
    clear hK K
    try simp only [Act.put, zA, zB, zC, zD, zE, zF]
    refine rdy [6] ?_
    refine AllReadyH.cons (by rfl) (fun K hK => ?_) AllReadyH.nil
    obtain ⟨x0, x1, x2, x3, f0, f1, f2, f3⟩ := cellsL4 (hI.out.p _ rfl).2
    go_simp
    change K _ (putL4 wl P (.bool ts) (.slice ta tl tc) (.slice tb tk te) (.slice a9 rs9.length cp9))
    clear x0 x1 x2 x3 f0 f1 f2 f3
    have hE := Lib.hid (sq_end (d := (ds, (da, dl, dc), (db, dk, de))) (cp := cp9) hI.out)
    clear hI
    obtain ⟨wp, hw⟩ : ∃ X, X = putL4 wl P (.bool ts) (.slice ta tl tc) (.slice tb tk te) (.slice a9 rs9.length cp9) := ⟨_, rfl⟩
    rw [← hw] at hE ⊢
    clear hw
    refine hK.out _ _ ?_ (fun hHeld => ?_)
    ·exact HKX.out _ hE.out.r
    clear hK K
    try simp only [Act.put, zA, zB, zC, zD, zE, zF]
    refine wpAnyH_done (by kernel_rfl) ?_ _
    exact ⟨_, by simp only [puts, Act.put, zA, zB, zC, zD, zE, zF], hE.out⟩
   exact AllReadyH.nil
  refine AllReadyH.cons (by rfl) (fun K hK => ?_) ?_
  ·go_simp
   replace hI := Lib.hid hI.out.alloc
   obtain ⟨wz, hw⟩ : ∃ X, X = wl.alloc (.cells #[.bool false, .slice none 0 0, .slice none 0 0, .slice none 0 0] 30) := ⟨_, rfl⟩
   rw [← hw] at hI ⊢; clear hw; generalize wl.heap.size = P at hI ⊢
   obtain ⟨wl, hw⟩ : ∃ X, X = wz := ⟨_, rfl⟩; rw [← hw] at hI ⊢; clear hw
   refine hK.out _ _ ?_ (fun hHeld => ?_)
   ·exact HKX.out _ hI.out.r
   clear hK K
   try simp only [Act.put, zA, zB, zC, zD, zE, zF]
   refine rdy [2] ?_
   refine AllReadyH.cons (by rfl) (fun K hK => ?_) AllReadyH.nil
   go_simp
   refine (HOF.out _ _ hI.out).mono ?_
   clear hI
   rintro e wl ⟨ds, da, dl, dc, db, dk, de, rfl, hI⟩
   refine hK.out _ _ ?_ (fun hHeld => ?_)
   ·exact HKX.out _ hI.out.r
   clear hK K
   try simp only [Act.put, zA, zB, zC, zD, zE, zF]
   refine rdy [4] ?_
   refine AllReadyH.cons (by rfl) (fun K hK => ?_) AllReadyH.nil
   go_simp
   refine (HAD.out _ _ _ _ _ _ _ _ _ hI.out).mono ?_
   clear hI
   rintro e wl ⟨ts, ta, tl, tc, tb, tk, te, a9, cp9, rs9, rfl, hI⟩
   refine hK.out _ _ ?_ (fun hHeld => ?_)
   ·exact HKX.out _ hI.out.r
   clear hK K
   try simp only [Act.put, zA, zB, zC, zD, zE, zF]
   refine rdy [6] ?_
   refine AllReadyH.cons (by rfl) (fun K hK => ?_) AllReadyH.nil
   obtain ⟨x0, x1, x2, x3, f0, f1, f2, f3⟩ := cellsL4 (hI.out.p _ rfl).2
   go_simp
   change K _ (putL4 wl P (.bool ts) (.slice ta tl tc) (.slice tb tk te) (.slice a9 rs9.length cp9))
   clear x0 x1 x2 x3 f0 f1 f2 f3
   have hE := Lib.hid (sq_end (d := (ds, (da, dl, dc), (db, dk, de))) (cp := cp9) hI.out)
   clear hI
   obtain ⟨wp, hw⟩ : ∃ X, X = putL4 wl P (.bool ts) (.slice ta tl tc) (.slice tb tk te) (.slice a9 rs9.length cp9) := ⟨_, rfl⟩
   rw [← hw] at hE ⊢
   clear hw
   refine hK.out _ _ ?_ (fun hHeld => ?_)
   ·exact HKX.out _ hE.out.r
   clear hK K
   try simp only [Act.put, zA, zB, zC, zD, zE, zF]
   refine wpAnyH_done (by kernel_rfl) ?_ _
   exact ⟨_, by simp only [puts, Act.put, zA, zB, zC, zD, zE, zF], hE.out⟩
  exact AllReadyH.nil
 rintro ⟨P2, ⟨ds2, ⟨da2, dl2, dc2⟩, ⟨db2, dk2, de2⟩⟩, ⟨us, ⟨ua, ul, uc⟩, ⟨ub, uk, ue⟩⟩, a8, rs8, cp8⟩ w8 hS
 simp only [puts, Act.put, zA, zB, zC, zD, zE, zF]
 clear HOF HAD HKX
 obtain ⟨j8, hj8⟩ : ∃ n, rs8.length = n := ⟨_, rfl⟩
 have HJ8 := Lib.hid hj8
 have HZ3 : Hid (szQ (0 + k * c2) ≤ 100 ∧ (∀ x ∈ refAdd [] k ms2, szQ x.2 ≤ 100) ∧ (refAdd [] k ms2).length ≤ 100) := Lib.hid (by
  obtain ⟨zk, z1, zm1, z2, zm2, n1, n2, e1, e2, f1, f2, v1, v2⟩ := HZ.out
  exact ⟨by have := addC_sz (c1 := 0) zk (by rw [szQ_zero]; omega) z2; omega, fun x hx => by have := refAdd_sz (l := []) zk (by simp) zm2 x hx; omega, by have := addR_len (k := k) (l := []) .nil f2; simp at this; omega⟩)
 have HB8 := Lib.hid hS.r
 have HBK8 : Hid (∀ W, Below w8.heap.size w8 W → (W.cell? ⟨P2, 0, none⟩ = some (.bool us) ∧ W.cell? ⟨P2, 1, none⟩ = some (.slice ua ul uc) ∧ W.cell? ⟨P2, 2, none⟩ = some (.slice ub uk ue) ∧ W.cell? ⟨P2, 3, none⟩ = some (.slice a8 j8 cp8)) ∧ (W.cell? ⟨P, 0, none⟩ = some (.bool ts) ∧ W.cell? ⟨P, 1, none⟩ = some (.slice ta tl tc) ∧ W.cell? ⟨P, 2, none⟩ = some (.slice tb tk te) ∧ W.cell? ⟨P, 3, none⟩ = some (.slice a9 j9 cp9)) ∧ (W.cell? ⟨w.heap.size, 0, none⟩ = some (.bool ps) ∧ W.cell? ⟨w.heap.size, 1, none⟩ = some (.slice pa px.length pc) ∧ W.cell? ⟨w.heap.size, 2, none⟩ = some (.slice pb pd.length pe) ∧ W.cell? ⟨w.heap.size, 3, none⟩ = some (.slice pm phs.length pn))) := Lib.hid fun W h => by
  have hk := HB8.out.trans (h.mono HB8.out.size)
  obtain ⟨x0, x1, x2, x3, _⟩ := cellsL4 (stayL hS.blk h)
  obtain ⟨y0, y1, y2, y3, _⟩ := cellsL4 (stayL HS6.out.1 hk)
  obtain ⟨z0, z1, z2, z3, _⟩ := cellsL4 (HT6.out.kept hk).1
  dsimp only at x0 x1 x2 x3
  rw [hj8] at x3
  exact ⟨⟨x0, x1, x2, x3⟩, ⟨y0, y1, y2, y3⟩, z0, z1, z2, z3⟩
 have HFT : Hid (∀ W, Below w8.heap.size w8 W → Calls Tryz.prog 29 #[.agg #[.bool us, .slice ua ul uc, .slice ub uk ue, .slice a8 j8 cp8], .int .i64 (m : Int)] W (GivesV (.bool (fitsP m (0 + k * c2) (refAdd [] k ms2))) W) ∧ Calls Tryz.prog 29 #[.agg #[.bool ts, .slice ta tl tc, .slice tb tk te, .slice a9 j9 cp9], .int .i64 (m : Int)] W (GivesV (.bool (fitsP m (c1 + k * c2) (refAdd ms1 k ms2))) W) ∧ Calls Tryz.prog 29 #[.agg #[.bool ps, .slice pa px.length pc, .slice pb pd.length pe, .slice pm phs.length pn], .int .i64 (m : Int)] W (GivesV (.bool (fitsP m c1 ms1)) W)) := Lib.hid fun W h => by
  have hk := HB8.out.trans (h.mono HB8.out.size)
  obtain ⟨zk, z1, zm1, z2, zm2, n1, n2, e1, e2, f1, f2, v1, v2⟩ := HZ.out
  exact ⟨fits_sm (hS.poly.kept h) HZ3.out.1 HZ3.out.2.1 HZ3.out.2.2 HM.out.2.1 hj8, fits_sm (HS6.out.2.kept hk) HZ2.out.1 HZ2.out.2.1 HZ2.out.2.2.1 HM.out.2.1 HJ9.out, fits_sm (HPS6.out.1.kept hk) (by omega) (fun x hx => by have := zm1 x hx; omega) (by omega) HM.out.2.1 e1⟩
 have hxb := stayL HKB6.out hS.r
 obtain ⟨x0, x1, x2, x3, _⟩ := cellsL4 hxb
 have HSM := Lib.hid (same_sm (cp1 := xn) (cp2 := 0) (show PolyAt 0 [] _ _ _ _ from HP6.out.kept hS.r) (zero_at w8) (by rw [szQ_zero]; omega) (by simp) (by simp) (by simp) HXJ.out rfl ⟨rfl, rfl⟩)
 have HBW8 := Lib.hid (HBW.out.trans (hS.r.mono HBW.out.size))
 have HOVF : Hid (_) := Lib.hid (over_fits HZ.out.2.2.2.2.2.2.2.2.2.1 HZ.out.2.2.2.2.2.2.2.2.2.2.1 HO.out)
 rw [hj8]
 clear hS hxb hj8
 go_wp2_with fail
 refine HSM.out.mono ?_
 rintro e w9 ⟨rfl, hb9⟩
 obtain ⟨⟨u0, u1, u2, u3⟩, -, -⟩ := HBK8.out _ hb9
 have HF1 := Lib.hid (HFT.out _ hb9).1
 have HB9 := Lib.hid hb9
 clear hb9 HSM x0 x1 x2 x3
 cases h1 : fitsP m (0 + k * c2) (refAdd [] k ms2)
 case false =>
  rw [h1] at HF1
  clear h1
  go_wp2_with fail
  refine HF1.out.mono ?_
  rintro e w10 ⟨rfl, hb10⟩
  have hb := HB9.out.trans (hb10.mono HB9.out.size)
  have HE := Lib.hid (HBW8.out.trans (hb.mono HBW8.out.size))
  clear hb10 hb HF1 u0 u1 u2 u3
  go_wp2_with fail
  go_ret
  exact ⟨rfl, HE.out⟩
 case true =>
 rw [h1] at HF1
 have HH1 := Lib.hid h1
 clear h1
 go_wp2_with fail
 refine HF1.out.mono ?_
 rintro e w10 ⟨rfl, hb10⟩
 have hb := HB9.out.trans (hb10.mono HB9.out.size)
 have HB10 := Lib.hid hb
 clear u0 u1 u2 u3
 obtain ⟨-, ⟨u0, u1, u2, u3⟩, -⟩ := HBK8.out _ hb
 have HF2 := Lib.hid (HFT.out _ hb).2.1
 clear hb10 hb HF1
 cases h2 : fitsP m (c1 + k * c2) (refAdd ms1 k ms2)
 case false =>
  rw [h2] at HF2
  clear h2
  go_wp2_with fail
  refine HF2.out.mono ?_
  rintro e w11 ⟨rfl, hb11⟩
  have hb := HB10.out.trans (hb11.mono HB10.out.size)
  have HE := Lib.hid (HBW8.out.trans (hb.mono HBW8.out.size))
  clear hb11 hb HF2 u0 u1 u2 u3
  go_wp2_with fail
  go_ret
  exact ⟨rfl, HE.out⟩
 case true =>
 rw [h2] at HF2
 have HH3 : Hid (fitsP m c1 ms1 = false) := Lib.hid (by
  rcases HOVF.out with h | h | h
  ·rw [HH1.out] at h; cases h
  ·rw [h2] at h; cases h
  ·exact h)
 clear h2
 go_wp2_with fail
 refine HF2.out.mono ?_
 rintro e w11 ⟨rfl, hb11⟩
 have hb := HB10.out.trans (hb11.mono HB10.out.size)
 have HB11 := Lib.hid hb
 clear u0 u1 u2 u3
 obtain ⟨-, -, u0, u1, u2, u3⟩ := HBK8.out _ hb
 have HF3 := Lib.hid (HFT.out _ hb).2.2
 rw [HH3.out] at HF3
 clear hb11 hb HF2
 go_wp2_with fail
 refine HF3.out.mono ?_
 rintro e w12 ⟨rfl, hb12⟩
 have hb := HB11.out.trans (hb12.mono HB11.out.size)
 have HE := Lib.hid (HBW8.out.trans (hb.mono HBW8.out.size))
 clear hb12 hb HF3 u0 u1 u2 u3
 go_wp2_with fail
 go_ret
 exact ⟨rfl, HE.out⟩
end Go.Proofs.YtpjeecahaeaajaaGreatDoor
