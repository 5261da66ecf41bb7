/- By program out of: EvSpk, EvCall. -/
import Derived.Test.YthnklohpmcebkaaGreatDoorMhemifl
import Derived.Test.YthnklohpmcebkaaGreatDoorMmagmec
import Derived.Test.YthnklohpmcebkaaGreatDoorMjbngjo
import Derived.Test.YthnklohpmcebkaaGreatDoorMkeimog
set_option linter.unusedVariables false
set_option linter.unusedSimpArgs false
namespace Go.Proofs.YthnklohpmcebkaaGreatDoor
open Go.RowKit Tm Rep Ev
theorem right_of (q : Rat) : rightB (ngQ q) (L (mgQ q)) (L (denN q.den)) = true := by
  have e : qOf (ngQ q) (L (mgQ q)) (L (denN q.den)) = q := by
    unfold qOf
    rw [V_L, V_L]
    have : (if denN q.den = 0 then 1 else denN q.den) = q.den := by
      have := den_pos q
      unfold denN
      by_cases h : q.den = 1
      · simp [h]
      · simp [h]; omega
    rw [this, mkQ_self]
  unfold rightB
  rw [e]
  exact decide_eq_true ⟨rfl, rfl, rfl⟩
theorem szQ_I10 {n : Int} (h1 : -9223372036854775808 ≤ n) (h2 : n ≤ 9223372036854775807) : szQ (qI n) ≤ 2 := by
  obtain ⟨a, b, c⟩ := qI_parts n
  unfold szQ
  rw [b, c, denN_one, L_zero]
  have : (L n.natAbs).length ≤ 2 := by rw [L_len]; omega
  simp
  omega
theorem hand_num {W : World} {a : Option Addr} {c n : Nat} (h : NumAt W a c n) : Handed W a c (L n) := ⟨L_lim n, h.1, h.2.1, h.2.2⟩
def numN (q : Rat) (z1 : Option Addr) (k1 : Nat) (z2 : Option Addr) (k2 : Nat) : HN := ⟨5, 0, none, 0, [], ngQ q, z1, k1, L (mgQ q), z2, k2, L (denN q.den)⟩
def lessN (g : Nat) : HN := ⟨14, 0, some ⟨g, 0, none⟩, 3, [0, 1, 2], false, none, 0, [], none, 0, []⟩
def spE : List En := [⟨5, 0, [], qI 1⟩, ⟨5, 0, [], qI 2⟩, ⟨5, 0, [], qI 3⟩, ⟨14, 0, [0, 1, 2], 0⟩]
theorem sp_runs (z1 z2 z3 o4 : Bool) : runs (startRu 0 0) [⟨5, 0, [], z1, true⟩, ⟨5, 0, [], z2, true⟩, ⟨5, 0, [], z3, true⟩, ⟨14, 0, [0, 1, 2], true, o4⟩] = true := by
  cases z1 <;> cases z2 <;> cases z3 <;> cases o4 <;> decide
theorem sp_vals : values [] [] [] spE = [(false, qI 1), (false, qI 2), (false, qI 3), (true, 0)] := by
  have h1 : cmpQ (qI 1) (qI 2) = -1 := by decide +kernel
  have h2 : cmpQ (qI 2) (qI 3) = -1 := by decide +kernel
  simp [values, spE, Ev.value, Ev.truth, inOrder, pairOk, ordB, cmpV, vat, kid, List.range, List.range.loop, h1, h2]
theorem sp_fit : ∀ (k : Nat) (n : En), spE[k]? = some n → Fit 0 0 k n ∧ (1 ≤ n.op ∧ n.op ≤ 19) ∧ NodeSm 1 (values [] [] [] (spE.take k)) n := by
  intro k n h
  match k, h with
  | 0, h => obtain rfl := Option.some.inj h.symm; exact ⟨fit_of (by decide), by decide, fun e => absurd e (by decide), fun e => absurd e (by decide)⟩
  | 1, h => obtain rfl := Option.some.inj h.symm; exact ⟨fit_of (by decide), by decide, fun e => absurd e (by decide), fun e => absurd e (by decide)⟩
  | 2, h => obtain rfl := Option.some.inj h.symm; exact ⟨fit_of (by decide), by decide, fun e => absurd e (by decide), fun e => absurd e (by decide)⟩
  | 3, h => obtain rfl := Option.some.inj h.symm; exact ⟨fit_of (by decide), by decide, fun e => absurd e (by decide), fun e => absurd e (by decide)⟩
  | k + 4, h => simp [spE] at h
theorem bench_at (w : World) (m : Nat) : Bench (w.alloc (.cells #[.int .i64 (m : Int), .bool false] 68)) w.heap.size m false := heap_alloc_new w _
theorem num_each {W : World} {q : Rat} {z1 : Option Addr} {k1 : Nat} {z2 : Option Addr} {k2 : Nat} (h : AtQ W z1 k1 z2 k2 q) : HandN W (numN q z1 k1 z2 k2) := ⟨⟨.inl rfl, Nat.le_refl _, by show (0:Nat) ≤ _; omega, fun _ => rfl⟩, ⟨hand_num h.num, hand_num h.den⟩⟩
theorem sp_nodes {W : World} {b NB kb : Nat} {x1 x2 x3 y1 y2 y3 : Option Addr} {c1 c2 c3 e1 e2 e3 : Nat} (hn : W.heap[NB]? = some (.cells ((numN (qI 1) x1 c1 y1 e1).cells ++ (numN (qI 2) x2 c2 y2 e2).cells ++ (numN (qI 3) x3 c3 y3 e3).cells ++ (lessN kb).cells).toArray 33 (0, 0)))
    (hk : W.heap[kb]? = some (.cells #[.int .i64 0, .int .i64 1, .int .i64 2] 3 (0, 0))) (h1 : AtQ W x1 c1 y1 e1 (qI 1)) (h2 : AtQ W x2 c2 y2 e2 (qI 2)) (h3 : AtQ W x3 c3 y3 e3 (qI 3)) (hb1 : NB ≠ b) (hb2 : kb ≠ b) :
    NodesOk W b (some ⟨NB, 0, none⟩) [numN (qI 1) x1 c1 y1 e1, numN (qI 2) x2 c2 y2 e2, numN (qI 3) x3 c3 y3 e3, lessN kb] spE := by
  have s1 : szQ (qI 1) ≤ 2 := szQ_I10 (by omega) (by omega)
  have s2 : szQ (qI 2) ≤ 2 := szQ_I10 (by omega) (by omega)
  have s3 : szQ (qI 3) ≤ 2 := szQ_I10 (by omega) (by omega)
  have gr : ∀ (q : Rat) z1 k1 z2 k2, szQ q ≤ 2 → (numN q z1 k1 z2 k2).great = false := fun q z1 k1 z2 k2 h => by
    unfold szQ at h
    have h1 : ¬ 6 < (L (mgQ q)).length := by omega
    have h2 : ¬ 6 < (L (denN q.den)).length := by omega
    show (decide (12 < 0) || (decide (6 < (L (mgQ q)).length) || decide (6 < (L (denN q.den)).length))) = false
    rw [decide_eq_false h1, decide_eq_false h2]
    rfl
  refine ⟨⟨.inr ⟨NB, 0, rfl, fun k p hp j u hu => ?_⟩, fun p hp => ?_⟩, fun p hp => ?_, rfl, by simp, fun g off e => by cases e; exact hb1, fun k d n hd hn' => ?_⟩
  · rw [Nat.zero_add]
    simp only [World.cell?, hn]
    match k, hp with
    | 0, hp => obtain rfl := Option.some.inj hp.symm; simp only [List.getElem?_toArray]; match j, hu with | 0, hu | 1, hu | 2, hu | 3, hu | 4, hu | 5, hu => exact hu
    | 1, hp => obtain rfl := Option.some.inj hp.symm; simp only [List.getElem?_toArray]; match j, hu with | 0, hu | 1, hu | 2, hu | 3, hu | 4, hu | 5, hu => exact hu
    | 2, hp => obtain rfl := Option.some.inj hp.symm; simp only [List.getElem?_toArray]; match j, hu with | 0, hu | 1, hu | 2, hu | 3, hu | 4, hu | 5, hu => exact hu
    | 3, hp => obtain rfl := Option.some.inj hp.symm; simp only [List.getElem?_toArray]; match j, hu with | 0, hu | 1, hu | 2, hu | 3, hu | 4, hu | 5, hu => exact hu
    | k + 4, hp => simp at hp
  · simp only [List.mem_cons, List.not_mem_nil, or_false] at hp
    rcases hp with rfl | rfl | rfl | rfl
    · exact num_each h1
    · exact num_each h2
    · exact num_each h3
    · refine ⟨⟨.inr ⟨kb, 0, rfl, fun j u hu => ?_⟩, Nat.le_refl _, by show (3:Nat) ≤ _; omega, fun e => (by cases e)⟩, ⟨⟨by intro x hx; simp [lessN] at hx, .inl rfl, Nat.le_refl _, by show (0:Nat) ≤ _; unfold maxLen; omega⟩, ⟨by intro x hx; simp [lessN] at hx, .inl rfl, Nat.le_refl _, by show (0:Nat) ≤ _; unfold maxLen; omega⟩⟩⟩
      simp only [World.cell?, hk, Nat.zero_add]
      match j, hu with
      | 0, hu | 1, hu | 2, hu => exact hu
  · simp only [List.mem_cons, List.not_mem_nil, or_false] at hp
    rcases hp with rfl | rfl | rfl | rfl
    · exact gr _ _ _ _ _ s1
    · exact gr _ _ _ _ _ s2
    · exact gr _ _ _ _ _ s3
    · rfl
  · match k, hd with
    | 0, hd => obtain rfl := Option.some.inj hd.symm; obtain rfl := Option.some.inj hn'.symm; exact ⟨rfl, rfl, rfl, fun g off e => (by cases e), fun _ => ⟨⟨rfl, rfl, rfl, h1⟩, by show szQ (qI 1) ≤ 48; omega⟩⟩
    | 1, hd => obtain rfl := Option.some.inj hd.symm; obtain rfl := Option.some.inj hn'.symm; exact ⟨rfl, rfl, rfl, fun g off e => (by cases e), fun _ => ⟨⟨rfl, rfl, rfl, h2⟩, by show szQ (qI 2) ≤ 48; omega⟩⟩
    | 2, hd => obtain rfl := Option.some.inj hd.symm; obtain rfl := Option.some.inj hn'.symm; exact ⟨rfl, rfl, rfl, fun g off e => (by cases e), fun _ => ⟨⟨rfl, rfl, rfl, h3⟩, by show szQ (qI 3) ≤ 48; omega⟩⟩
    | 3, hd => obtain rfl := Option.some.inj hd.symm; obtain rfl := Option.some.inj hn'.symm; exact ⟨rfl, rfl, rfl, fun g off e => (by cases e; exact hb2), fun e => absurd e (by decide)⟩
    | k + 4, hd => simp at hd
theorem of_got (W5 W : World) (n : Int) (h1 : -9223372036854775808 ≤ n) (h2 : n ≤ 9223372036854775807) (hb : Below W5.heap.size W5 W) : Calls Tryz.prog 10 #[.int .i64 n] W (GotQ W5 (qI n)) := (OfP_any n W h1 h2).mono fun e W' h => h.got hb
set_option maxRecDepth 100000 in
set_option maxHeartbeats 16000000 in
theorem speaks10 {w : World} (hT : Tab w) : Calls Tryz.prog 4 #[] w (GivesV (.bool true) w) := by
  have HT := Lib.hid hT
  have HO1 := Lib.hid (of_got w w 1 (by omega) (by omega) (Below.refl _ _))
  clear hT
  go_enter Tryz.func4, Tryz.ntmps4
  go_wp2_with fail
  refine HO1.out.mono ?_
  rintro e w1 ⟨s1, x1, m1, k1, y1, n1, j1, rfl, B1, V1⟩
  have HO2 := Lib.hid (of_got w1 w1 2 (by omega) (by omega) (Below.refl _ _))
  clear HO1
  go_wp2_with fail
  refine HO2.out.mono ?_
  rintro e w2 ⟨s2, x2, m2, k2, y2, n2, j2, rfl, B2, V2⟩
  have HO3 := Lib.hid (of_got w2 w2 3 (by omega) (by omega) (Below.refl _ _))
  clear HO2
  go_wp2_with fail
  refine HO3.out.mono ?_
  rintro e w3 ⟨s3, x3, m3, k3, y3, n3, j3, rfl, B3, V3⟩
  clear HO3
  have hb3 : Below w.heap.size w w3 := (B1.out.trans (B2.out.mono B1.out.size)).trans (B3.out.mono (Nat.le_trans B1.out.size B2.out.size))
  have HB3 := Lib.hid hb3
  have HV : Hid (VQ (qI 1) (s1, (x1, m1, k1), (y1, n1, j1)) w3 ∧ VQ (qI 2) (s2, (x2, m2, k2), (y2, n2, j2)) w3 ∧ VQ (qI 3) (s3, (x3, m3, k3), (y3, n3, j3)) w3) := Lib.hid ⟨(V1.out.kept10 B2.out).kept10 B3.out, V2.out.kept10 B3.out, V3.out⟩
  clear hb3 B1 B2 B3 V1 V2 V3
  obtain ⟨w5, hw5⟩ : ∃ w5, w5 = (w3.alloc (.cells #[.int .i64 0, .int .i64 1, .int .i64 2] 3)).alloc (.cells #[.int .i64 5, .int .i64 0, .slice none 0 0, .bool s1, .slice x1 m1 k1, .slice y1 n1 j1, .int .i64 5, .int .i64 0, .slice none 0 0, .bool s2, .slice x2 m2 k2, .slice y2 n2 j2, .int .i64 5, .int .i64 0, .slice none 0 0, .bool s3, .slice x3 m3 k3, .slice y3 n3 j3, .int .i64 14, .int .i64 0, .slice (some ⟨w3.heap.size, 0, none⟩) 3 3, .bool false, .slice none 0 0, .slice none 0 0] 33) := ⟨_, rfl⟩
  have hb35 : Below w3.heap.size w3 w5 := by rw [hw5]; exact ((Below.refl _ _).alloc (Nat.le_refl _) _).alloc (by simp) _
  have hk5 : w5.heap[w3.heap.size]? = some (.cells #[.int .i64 0, .int .i64 1, .int .i64 2] 3 (0, 0)) := by rw [hw5, Below.heap_alloc _ _ _ (by simp)]; exact heap_alloc_new w3 _
  have hn5 : w5.heap[w3.heap.size + 1]? = some (.cells #[.int .i64 5, .int .i64 0, .slice none 0 0, .bool s1, .slice x1 m1 k1, .slice y1 n1 j1, .int .i64 5, .int .i64 0, .slice none 0 0, .bool s2, .slice x2 m2 k2, .slice y2 n2 j2, .int .i64 5, .int .i64 0, .slice none 0 0, .bool s3, .slice x3 m3 k3, .slice y3 n3 j3, .int .i64 14, .int .i64 0, .slice (some ⟨w3.heap.size, 0, none⟩) 3 3, .bool false, .slice none 0 0, .slice none 0 0] 33 (0, 0)) := by
    rw [hw5]
    have := heap_alloc_new (w3.alloc (.cells #[.int .i64 0, .int .i64 1, .int .i64 2] 3)) (.cells #[.int .i64 5, .int .i64 0, .slice none 0 0, .bool s1, .slice x1 m1 k1, .slice y1 n1 j1, .int .i64 5, .int .i64 0, .slice none 0 0, .bool s2, .slice x2 m2 k2, .slice y2 n2 j2, .int .i64 5, .int .i64 0, .slice none 0 0, .bool s3, .slice x3 m3 k3, .slice y3 n3 j3, .int .i64 14, .int .i64 0, .slice (some ⟨w3.heap.size, 0, none⟩) 3 3, .bool false, .slice none 0 0, .slice none 0 0] 33)
    rw [World.size_alloc] at this
    exact this
  have H5 := Lib.hid (And.intro hb35 (And.intro hk5 hn5))
  have HW5 := Lib.hid hw5
  have HNW := Lib.hid (new_high 1 w5 (by omega) (by unfold maxLen; omega))
  clear hb35 hk5 hn5
  go_wp2_with fail
  rw [← hw5]
  clear hw5
  refine HNW.out.mono ?_
  rintro e w6 ⟨rfl, rfl⟩
  have hbw : Below w.heap.size w (w5.alloc (.cells #[.int .i64 1, .bool false] 68)) := (HB3.out.trans (H5.out.1.mono HB3.out.size)).trans (((Below.refl w5.heap.size w5).alloc (Nat.le_refl _) _).mono (Nat.le_trans HB3.out.size H5.out.1.size))
  have hal := (Below.refl w5.heap.size w5).alloc (Nat.le_refl _) (.cells #[.int .i64 1, .bool false] 68)
  have hlt := (Array.getElem?_eq_some_iff.1 H5.out.2.2).1
  have hlk := (Array.getElem?_eq_some_iff.1 H5.out.2.1).1
  obtain ⟨v1, v2, v3⟩ := HV.out
  obtain ⟨a1, a2, a3, a4⟩ := (v1.kept10 H5.out.1).kept10 hal
  obtain ⟨b1, b2, b3, b4⟩ := (v2.kept10 H5.out.1).kept10 hal
  obtain ⟨c1, c2, c3, c4⟩ := (v3.kept10 H5.out.1).kept10 hal
  dsimp only at a1 a2 a3 a4 b1 b2 b3 b4 c1 c2 c3 c4
  subst a1 a2 a3 b1 b2 b3 c1 c2 c3
  have hN := sp_nodes (b := w5.heap.size) (NB := w3.heap.size + 1) (kb := w3.heap.size) (block_kept H5.out.2.2 hal) (block_kept H5.out.2.1 hal) a4 b4 c4 (by omega) (by omega)
  have hAll := All_any (c := 4) (bools := []) (ba := none) (bc := 0) (reals := []) (rq := []) (ra := none) (rc := 0) (m := 1) hN (HT.out.kept hbw) (bench_at w5 1) (.inl rfl) ⟨rfl, .inl rfl, fun k d q h _ => by simp at h⟩ (by simp) (by simp) (fun W' _ d hd => by simp at hd)
    (by
      have e1 : ∀ q z1 k1 z2 k2, (numN q z1 k1 z2 k2).nd = ⟨5, 0, [], (numN q z1 k1 z2 k2).nd.z, true⟩ := fun q z1 k1 z2 k2 => by unfold HN.nd numN; rw [right_of]
      simp only [List.map_cons, List.map_nil]
      rw [e1 (qI 1), e1 (qI 2), e1 (qI 3)]
      exact sp_runs _ _ _ _) sp_fit
    (by
      rw [sp_vals]
      have s1 : szQ (qI 1) ≤ 2 := szQ_I10 (by omega) (by omega)
      have s2 : szQ (qI 2) ≤ 2 := szQ_I10 (by omega) (by omega)
      have s3 : szQ (qI 3) ≤ 2 := szQ_I10 (by omega) (by omega)
      intro v hv
      simp only [List.mem_cons, List.not_mem_nil, or_false] at hv
      rcases hv with rfl | rfl | rfl | rfl
      · show szQ (qI 1) ≤ 48; omega
      · show szQ (qI 2) ≤ 48; omega
      · show szQ (qI 3) ≤ 48; omega
      · show szQ 0 ≤ 48; rw [szQ_zero]; omega) (by simp)
  have HALL := Lib.hid hAll
  have HBW := Lib.hid (And.intro hbw (show w.heap.size ≤ w5.heap.size from Nat.le_trans HB3.out.size H5.out.1.size))
  clear hN hAll hbw hal hlt hlk v1 v2 v3 a4 b4 c4 HV HNW
  go_wp2_with fail
  refine HALL.out.mono ?_
  rintro e w7 ⟨G, cap, rs, rfl, R7, V7⟩
  have hb7 : Below w.heap.size w w7 := HBW.out.1.grown R7.out.g HBW.out.1.size (fun k hk => by cases hk; exact HBW.out.2)
  have HB7 := Lib.hid hb7
  obtain ⟨_, hcap, ho, hrl, hvv⟩ := V7.out
  obtain ⟨d, hd⟩ : ∃ d, rs[3]? = some d := ⟨_, List.getElem?_eq_getElem (by rw [hrl]; show 3 < 4; omega)⟩
  have hdt : d.t = true := (hvv 3 d (true, 0) hd (by rw [sp_vals]; rfl)).t
  have hcell : w7.cell? ⟨G, 12, none⟩ = some (.bool true) := by
    have := ho.cell (3 * 4) (.bool d.t) (cellsOf_at rs 3 d hd 0 _ rfl)
    rw [hdt] at this
    exact this
  clear hb7 R7 V7 hcap ho hrl hvv hd hdt HALL HBW
  go_wp2_with fail
  go_ret
  exact GivesV.mk' rfl HB7.out
end Go.Proofs.YthnklohpmcebkaaGreatDoor

set_option linter.unusedVariables false
set_option linter.unusedSimpArgs false
namespace Go.Proofs.YthnklohpmcebkaaGreatDoor
open Go.RowKit Tm Rep Ev Law
theorem LSt.out {w0 W : World} {PB : Nat} (h : LSt w0 W PB 35) : ∃ G vc, W.cell? ⟨PB, 0, none⟩ = some (.slice (some ⟨G, 0, none⟩) 35 vc) ∧ ∀ (C : World) (b : Nat), Below W.heap.size W C → W.heap.size ≤ b → ∃ ts : List HN, ts.length = 35 ∧ ts.map HN.nd = lawN ∧ NodesOk C b (some ⟨G, 0, none⟩) ts lawE := by
  obtain ⟨nv, ts, hts, htl, hpb, hrow, hko⟩ := h.is
  have hrow0 := hrow
  obtain ⟨hcl, ⟨_, e⟩ | ⟨G, cap, cur, rfl, hb, hg, hnc, hcm, hcs, htk⟩⟩ := hrow
  · omega
  · refine ⟨G, cap, by simp [World.cell?, hpb], fun C b hC hbb => ⟨ts, htl, by rw [hts]; rfl, ?_⟩⟩
    have hGl := (Array.getElem?_eq_some_iff.1 hg).1
    have hgt : ∀ d ∈ ts, ∃ op v ka kc kids, d = nodeOf op v ka kc kids ∧ kids.length ≤ 12 ∧ ((kids = [] ∧ ka = none ∧ kc = 0) ∨ ∃ g, ka = some ⟨g, 0, none⟩ ∧ kc = kids.length ∧ W.heap[g]? = some (.cells (i64s kids).toArray 3 (0, 0))) := fun d hd => (hko d hd).is
    have hop : ∀ (k : Nat) (n : En), lawE[k]? = some n → n.op ≠ 5 := by
      intro k n hn
      have hall : lawE.all (fun n => decide (n.op ≠ 5)) = true := by decide
      have := List.all_eq_true.1 hall n (List.mem_of_getElem? hn)
      simpa using this
    refine ⟨⟨.inr ⟨G, 0, rfl, fun k d hd j u hu => ?_⟩, fun d hd => ?_⟩, fun d hd => ?_, by rw [htl]; rfl, by omega, fun g off e => by cases e; omega, fun k d n hd hn => ?_⟩
    · rw [Nat.zero_add]
      have hc := cellsN_at ts k d hd j u hu
      have hw : W.cell? ⟨G, k * 6 + j, none⟩ = some u := by
        have hlt := (List.getElem?_eq_some_iff.1 hc).1
        rw [← htk, List.getElem?_take] at hc
        split at hc
        · simp only [World.cell?, hg]
          rw [← Array.getElem?_toList]
          exact hc
        · cases hc
      exact cell_kept hw hC
    · obtain ⟨op, v, ka, kc, kids, rfl, hl, hh⟩ := hgt d hd
      refine ⟨?_, ⟨⟨by intro x hx; simp [nodeOf] at hx, .inl rfl, Nat.le_refl _, by show (0:Nat) ≤ _; unfold maxLen; omega⟩, ⟨by intro x hx; simp [nodeOf] at hx, .inl rfl, Nat.le_refl _, by show (0:Nat) ≤ _; unfold maxLen; omega⟩⟩⟩
      rcases hh with ⟨e1, e2, e3⟩ | ⟨g, e1, e2, hgk⟩
      · exact ⟨.inl e1, by show kids.length ≤ kc; rw [e1]; simp, by show kc ≤ _; omega, fun _ => e3⟩
      · refine ⟨.inr ⟨g, 0, e1, fun j u hu => ?_⟩, by show kids.length ≤ kc; omega, by show kc ≤ _; omega, fun e => ?_⟩
        · have := block_kept hgk hC
          simp only [World.cell?, this, Nat.zero_add, List.getElem?_toArray]
          exact hu
        · change ka = none at e
          rw [e1] at e; cases e
    · obtain ⟨op, v, ka, kc, kids, rfl, hl, hh⟩ := hgt d hd
      show (decide (12 < kids.length) || _) = false
      rw [decide_eq_false (by omega)]
      rfl
    · have hm := List.mem_of_getElem? hd
      obtain ⟨op, v, ka, kc, kids, rfl, hl, hh⟩ := hgt d hm
      have e1 : (ts.map HN.nd)[k]? = some (Law.mkN op v kids) := by rw [List.getElem?_map, hd]; rfl
      have e2 : lawN[k]? = some (Law.mkN op v kids) := by
        rw [hts] at e1
        exact e1
      have e3 : lawE[k]? = some ⟨op, v, kids, 0⟩ := by
        have : lawE = lawN.map (fun n => (⟨n.op, n.v, n.kids, 0⟩ : En)) := by rfl
        rw [this, List.getElem?_map, e2]
        rfl
      have e4 := hop k n hn
      rw [e3] at hn
      obtain rfl := Option.some.inj hn
      refine ⟨rfl, rfl, rfl, fun g off e => ?_, fun e => absurd e e4⟩
      rcases hh with ⟨_, e2, _⟩ | ⟨g', e1, _, hgk⟩
      · change ka = _ at e
        rw [e2] at e; cases e
      · change ka = _ at e
        rw [e1] at e
        cases e
        have := (Array.getElem?_eq_some_iff.1 hgk).1
        omega
theorem two_range {C : World} {R : Nat} {d0 d1 : RV} (h : C.heap[R]? = some (.cells (d0.rat ++ d1.rat).toArray 27 (0, 0))) : ∀ (k : Nat) (d : RV), [d0, d1][k]? = some d → C.rangeAt R (0 + k * 3) d.rat := by
  intro k d hd j u hu
  rw [Nat.zero_add]
  simp only [World.cell?, h, List.getElem?_toArray]
  match k, hd with
  | 0, hd => obtain rfl := Option.some.inj hd.symm; match j, hu with | 0, hu | 1, hu | 2, hu => exact hu
  | 1, hd => obtain rfl := Option.some.inj hd.symm; match j, hu with | 0, hu | 1, hu | 2, hu => exact hu
  | k + 2, hd => simp at hd
theorem law_call {C : World} {b Gn vc A bB bR : Nat} {ts : List HN} (p q : Bool) {x y : Rat} {s0 : Bool} {a0 b0 : Option Addr} {c0 e0 : Nat} {xs0 ds0 : List Nat} {s1 : Bool} {a1 b1 : Option Addr} {c1 e1 : Nat} {xs1 ds1 : List Nat} (hN : NodesOk C b (some ⟨Gn, 0, none⟩) ts lawE) (htl : ts.length = 35) (hnd : ts.map HN.nd = lawN) (hT : Tab C) (hB : Bench C b 200 false)
    (hb : C.heap[bB]? = some (.cells #[.bool p, .bool q] 4 (0, 0))) (hbb : bB ≠ b) (hr : C.heap[bR]? = some (.cells #[.bool s0, .slice a0 xs0.length c0, .slice b0 ds0.length e0, .bool s1, .slice a1 xs1.length c1, .slice b1 ds1.length e1] 27 (0, 0))) (hrb : bR ≠ b)
    (vx : VQ x (s0, (a0, xs0.length, c0), (b0, ds0.length, e0)) C) (vy : VQ y (s1, (a1, xs1.length, c1), (b1, ds1.length, e1)) C) (sx : szQ x ≤ 6) (sy : szQ y ≤ 6) (hx : HandR C a0 c0 xs0 b0 e0 ds0) (hy : HandR C a1 c1 xs1 b1 e1 ds1) (rx : rightB s0 xs0 ds0 = true) (ry : rightB s1 xs1 ds1 = true) (lx : xs0.length ≤ 6 ∧ ds0.length ≤ 6) (ly : xs1.length ≤ 6 ∧ ds1.length ≤ 6)
    (hA : C.heap[A]? = some (.cells #[.int .i64 9, .int .i64 13, .int .i64 16, .int .i64 20, .int .i64 24, .int .i64 27, .int .i64 30, .int .i64 34] 3 (0, 0))) (hAb : A ≠ b) :
    Calls Tryz.prog 8 #[.pointer (some ⟨b, 0, none⟩), .agg #[.slice none 0 0, .slice none 0 0, .slice (some ⟨Gn, 0, none⟩) 35 vc, .slice (some ⟨A, 0, none⟩) 8 8, .bool false, .bool false], .slice (some ⟨bB, 0, none⟩) 2 2, .slice (some ⟨bR, 0, none⟩) 2 2] C (TrueIs C b 200 true) := by
  have hka : KAt C (some ⟨A, 0, none⟩) lawA 8 := ⟨.inr ⟨A, 0, rfl, fun j u hu => by
    simp only [World.cell?, hA, Nat.zero_add]
    simpa [lawA, i64s] using hu⟩, by decide, by omega, fun e => (by cases e), by decide⟩
  have := True_any (ba := some ⟨bB, 0, none⟩) (bc := 2) (bools := [p, q]) (reals := [x, y]) (rq := [⟨false, s0, a0, xs0.length, c0, b0, ds0.length, e0⟩, ⟨false, s1, a1, xs1.length, c1, b1, ds1.length, e1⟩]) (ra := some ⟨bR, 0, none⟩) (rc := 2) (c := vc) (sa := some ⟨A, 0, none⟩) (asserts := lawA) (sc := 8) hN hT hB
    (.inr ⟨bB, 0, rfl, hbb, fun j u hu => by
      simp only [World.cell?, hb, Nat.zero_add]
      simpa using hu⟩)
    ⟨rfl, .inr ⟨bR, 0, rfl, hrb, two_range hr⟩, fun k d z h1 h2 => by
      match k, h1, h2 with
      | 0, h1, h2 => obtain rfl := Option.some.inj h1.symm; obtain rfl := Option.some.inj h2.symm; exact vx
      | 1, h1, h2 => obtain rfl := Option.some.inj h1.symm; obtain rfl := Option.some.inj h2.symm; exact vy
      | k + 2, h1, h2 => simp at h1⟩ (by simp) (by simp)
    (fun W' hW' d hd => by
      simp only [List.mem_cons, List.not_mem_nil, or_false] at hd
      rcases hd with rfl | rfl
      · have := RightP_any (s := s0) (hx.kept hW') (hT.kept hW') (by omega) (by omega)
        rw [rx] at this
        exact this
      · have := RightP_any (s := s1) (hy.kept hW') (hT.kept hW') (by omega) (by omega)
        rw [ry] at this
        exact this)
    (by rw [hnd]; exact law_runs) (law_fit p q x y sx sy) (by rw [law_vals]; exact law_size p q x y sx sy) (by
      intro z hz
      simp only [List.mem_cons, List.not_mem_nil, or_false] at hz
      rcases hz with rfl | rfl <;> omega) hka (fun g off e => by cases e; exact hAb) (by
      rw [htl]
      decide) (by rw [hnd]; exact law_sorts)
  rw [law_vals, law_true, htl] at this
  exact this
end Go.Proofs.YthnklohpmcebkaaGreatDoor
