/-
  DiskFlushed: what was flushed stands behind any crash: the walk.
-/
import Derived.Test.YtmgeokkeknageaaDkStops
import Derived.Test.YtmgeokkeknageaaDkMap
set_option linter.unusedVariables false
set_option linter.unusedSimpArgs false
namespace Go.Proofs.Ytmgeokkeknageaa
open Go.RowKit

/-! ### Sectors that weren't written stay -/
theorem Dk.aft_sec {m : Nat → Nat} {ws : List (Nat × List Int)} {p : List Int × List Int} {N i : Nat} (h1 : p.1.length = 64 * N) (h2 : p.2.length = 64 * N) (hw : ∀ x ∈ ws, x.1 < N ∧ x.2.length = 64) (hi : ∀ x ∈ ws, x.1 ≠ i) :
    ∀ k, k ≤ ws.length → Dk.sec (Dk.aft m ws p k).1 i = Dk.sec p.1 i
  | 0, _ => rfl
  | k + 1, hk => by
    have ih := Dk.aft_sec (m := m) h1 h2 hw hi k (by omega)
    have hl := Dk.aft_len (m := m) h1 h2 hw k (by omega)
    have hm : ws.getD k (0, []) ∈ ws := by rw [List.getD_eq_getElem?_getD, List.getElem?_eq_getElem (by omega)]; simp
    have hx := hw _ hm
    have hs := Dk.stepS_len (m := m k) hl.1 hl.2 hx.1 hx.2
    show Dk.sec (Dk.stepS (m k) (ws.getD k (0, [])) (Dk.aft m ws p k)).1 i = _
    rw [← ih]
    exact Dk.sec_splice_other hl.1 hx.1 (by simp; omega) (fun e => hi _ hm e.symm)
theorem Dk.crash_sec {m : Nat → Nat} {A : Dk.DV} {N i : Nat} (h : Dk.Fits N A) (hi : ∀ x ∈ A.wait, x.1 ≠ i) : Dk.sec (A.crash m).seen i = Dk.sec A.seen i :=
  Dk.aft_sec (p := (A.seen, A.last)) h.seen h.last h.wait hi A.wait.length (Nat.le_refl _)
theorem Dk.crash_twice {m : Nat → Nat} {A : Dk.DV} : ((A.crash m).crash m).seen = (A.crash m).seen := rfl

/-- A disk that is a law's own. -/
structure One (w0 w : World) (n : Nat) (d s l : Nat) (v : Value) (A : Dk.DV) : Prop where
  one : DkAt w d s l v n A
  old : ∀ j, Foot d s l v j → w0.heap.size ≤ j
  below : Below w0.heap.size w0 w
section
variable {w0 w w' : World} {n : Nat} {d s l : Nat} {v : Value} {A A' : Dk.DV}
theorem One.kept (h : One w0 w n d s l v A) (hb : Below w.heap.size w w') : One w0 w' n d s l v A := ⟨h.one.kept hb, h.old, h.below.trans (hb.mono h.below.size)⟩
theorem One.did {e : Ending} (h : One w0 w n d s l v A) (k : Did d s l v n A' w e w') : ∃ v', One w0 w' n d s l v' A' ∧ ∀ j, j < w.heap.size → ¬ Foot d s l v j → ¬ Foot d s l v' j := by
  obtain ⟨_, v', k1, k2, k3⟩ := k
  have hn : ∀ j, Foot d s l v' j → Foot d s l v j ∨ w.heap.size ≤ j := fun j hj => by
    rcases hj with hj | hj | hj | hj
    · exact .inl (.inl hj)
    · exact .inl (.inr (.inl hj))
    · exact .inl (.inr (.inr (.inl hj)))
    · exact (k3 j hj).imp (fun e => .inr (.inr (.inr e))) id
  refine ⟨v', ⟨k1, fun j hj => ?_, h.below.trans (k2.below h.old h.below.size)⟩, fun j hj h1 h2 => ?_⟩
  · rcases hn j hj with e | e
    · exact h.old j e
    · exact Nat.le_trans h.below.size e
  · rcases hn j h2 with e | e
    · exact h1 e
    · omega
theorem Did.set {e : Ending} (k : Did d s l v n A' w e w') {b : Nat} {ks : List Int} (hr : IntSet w b ks) (hn : ¬ Foot d s l v b) : IntSet w' b ks :=
  hr.past (k.2.choose_spec.2.1.block b hr.lt hn)
/-- The power doesn't go, and so many were done. -/
structure Live (A : Dk.DV) (k : Nat) : Prop where
  stop : A.stop = 9223372036854775807
  ops : A.ops ≤ k
  wait : A.wait.length ≤ k
theorem Live.dead {k : Nat} (h : Live A k) (hk : k ≤ 1000) : A.dead = false := by
  unfold Dk.DV.dead
  rw [h.stop]
  have := h.ops
  simp
  omega
theorem Live.puts {k : Nat} (h : Live A k) (i : Int) (S : List Int) : Live (A.puts n i S) (k + 1) := by
  obtain ⟨a1, a2, a3⟩ := Fits.puts (n := n) (A := A) i S
  exact ⟨a3.trans h.stop, by have := h.ops; omega, by have := h.wait; omega⟩
theorem Live.flushes {k : Nat} (h : Live A k) : Live A.flushes (k + 1) := by
  obtain ⟨a1, a2, a3⟩ := Fits.flushes (A := A)
  exact ⟨a3.trans h.stop, by have := h.ops; omega, by have := h.wait; omega⟩
/-- Behind the flush: what was written is in the set, and other sectors are as they were. -/
structure Since (R : List Int) (A : Dk.DV) (ks : List Int) : Prop where
  wait : ∀ x ∈ A.wait, (x.1 : Int) ∈ ks
  sec : ∀ i : Nat, ¬ (i : Int) ∈ ks → Dk.sec A.seen i = Dk.sec R i
theorem Since.put {k : Nat} {R : List Int} {ks : List Int} (h : Since R A ks) (hl : Live A k) (hk : k ≤ 1000) (hf : Dk.Fits n A) {i : Int} {S : List Int} (hS : S.length = 64) (hi : 0 ≤ i ∧ i < (n : Int)) : Since R (A.puts n i S) (i :: ks) := by
  unfold Dk.DV.puts Dk.DV.writes
  rw [if_pos hi, hl.dead hk, if_neg (by simp)]
  refine ⟨fun x hx => ?_, fun j hj => ?_⟩
  · rcases List.mem_append.1 hx with hx | hx
    · exact List.mem_cons_of_mem _ (h.wait x hx)
    · simp at hx
      subst hx
      have : ((i.toNat : Nat) : Int) = i := by omega
      simp [this]
  · simp only [List.mem_cons, not_or] at hj
    rw [← h.sec j hj.2]
    exact Dk.sec_splice_other (j := i.toNat) hf.seen (by omega) (by omega) (by omega)
theorem Since.not {R : List Int} {ks : List Int} (h : Since R A ks) {i : Int} {S : List Int} (hi : ¬ (0 ≤ i ∧ i < (n : Int))) : Since R (A.puts n i S) ks := by
  unfold Dk.DV.puts
  rw [if_neg hi]
  exact h
end

/-- Behind k of the first calls. -/
def FirstAt (w0 : World) (d s l k : Nat) (wr : World) : Prop := ∃ v A, One w0 wr 20 d s l v A ∧ Live A k
/-- Behind k of the later calls. -/
def LaterAt (w0 : World) (d s l g m : Nat) (R : List Int) (k : Nat) (wr : World) : Prop := ∃ v A ks, One w0 wr 20 d s l v A ∧ Live A (62 + k) ∧ Since R A ks ∧ IntSet wr m ks ∧ wr.rangeAt g 0 (bys R) ∧
  ¬ Foot d s l v g ∧ g < wr.heap.size ∧ ¬ Foot d s l v m ∧ w0.heap.size ≤ m
theorem zero_bool : ∀ w, (zeroValue 4).run Try.prog w = .ok (.bool false) w := fun w => by
  have h : (Try.prog.info? 4).map (·.zero) = some (some (.bool false)) := by kernel_rfl
  cases hq : Try.prog.info? 4 with
  | none => rw [hq] at h; cases h
  | some q =>
    rw [hq] at h
    simp at h
    simp [zeroValue, typeInfo, hq, h]

set_option maxRecDepth 100000 in
set_option maxHeartbeats 8000000 in
theorem flushed_walk (w0 : World) (a1 : Option Addr) (c1 : Nat) (cs1 : List HC) (a2 : Option Addr) (c2 : Nat) (cs2 : List HC) (a3 : Option Addr) (c3 : Nat) (kp : List Bool) (torn tear : Int) (hcs1 : CallsIn' w0 a1 cs1) (hcs2 : CallsIn' w0 a2 cs2) (hkp : Truths w0 a3 kp)
    (hte1 : -9223372036854775808 ≤ tear) (hte2 : tear ≤ 9223372036854775807) :
    Calls Try.prog 3 #[.slice a1 cs1.length c1, .slice a2 cs2.length c2, .slice a3 kp.length c3, .int .i64 torn, .int .i64 tear] w0 (Says w0) := by
  have HSP := Lib.hid (speaks05 w0)
  have HCS1 := Lib.hid hcs1
  have HCS2 := Lib.hid hcs2
  have HKP := Lib.hid hkp
  have HTE := Lib.hid (And.intro hte1 hte2)
  generalize hL1 : cs1.length = L1 at *
  generalize hL2 : cs2.length = L2 at *
  obtain ⟨L3, hL3⟩ : ∃ L3, kp.length = L3 := ⟨_, rfl⟩
  rw [hL3]
  have HL1 := Lib.hid hL1
  have HL2 := Lib.hid hL2
  have HL3 := Lib.hid hL3
  clear hL1 hL2 hL3 hcs1 hcs2 hkp hte1 hte2
  by_cases hbig : 60 < L1 ∨ 60 < L2 ∨ 100 < L3
  · have hb1 : (decide ((60 : Int) < (L1 : Int)) = true) ∨ (decide ((60 : Int) < (L1 : Int)) = false ∧ decide ((60 : Int) < (L2 : Int)) = true) ∨ (decide ((60 : Int) < (L1 : Int)) = false ∧ decide ((60 : Int) < (L2 : Int)) = false ∧ decide ((100 : Int) < (L3 : Int)) = true) := by simp; omega
    clear hbig
    rcases hb1 with hb1 | ⟨hb1, hb2⟩ | ⟨hb1, hb2, hb3⟩
    all_goals
      go_enter Try.func3, Try.ntmps3
      go_wp2_with fail
      refine HSP.out.mono ?_
      rintro e w1 ⟨rfl, hb⟩
      have HB1 := Lib.hid hb
      clear HSP hb
      go_wp2_with fail
      go_ret
      exact ⟨rfl, HB1.out⟩
  · have hsm1 : decide ((60 : Int) < (L1 : Int)) = false := by simp; omega
    have hsm2 : decide ((60 : Int) < (L2 : Int)) = false := by simp; omega
    have hsm3 : decide ((100 : Int) < (L3 : Int)) = false := by simp; omega
    have hL1 : (L1 : Int) ≤ 60 := by omega
    have hL2 : (L2 : Int) ≤ 60 := by omega
    have hL3 : (L3 : Int) ≤ 100 := by omega
    clear hbig
    go_enter Try.func3, Try.ntmps3
    go_wp2_with fail
    refine HSP.out.mono ?_
    rintro e w1 ⟨rfl, hb1⟩
    have HB1 := Lib.hid hb1
    have HN := Lib.hid (New_any w1 20 (by omega) (by omega))
    clear HSP hb1
    go_wp2_with fail
    refine HN.out.mono ?_
    rintro e w2 ⟨d, s, l, rfl, h2, ld, ls, ll, hb2⟩
    have H0 : Hid (FirstAt w0 d s l 0 w2) := Lib.hid ⟨_, _, ⟨h2, (fun j hj => by
      have q := HB1.out.size
      rcases hj with rfl | rfl | rfl | hj
      · omega
      · omega
      · omega
      · cases hj), HB1.out.trans (hb2.mono HB1.out.size)⟩, ⟨rfl, Nat.le_refl _, Nat.le_refl _⟩⟩
    clear HN h2 ld ls ll hb2 HB1
    go_wp2_with fail
    go_loopw [48] (fun (iv : Value) (wr : World) => ∃ k : Nat, k ≤ L1 ∧ iv = .int .i64 k ∧ Hid (FirstAt w0 d s l k wr)) (fun iv _ => L1 - (intOf iv).toNat)
    case atStart => exact ⟨0, Nat.zero_le _, rfl, H0⟩
    case round =>
      obtain ⟨k, hk, rfl, HK⟩ := hrel
      clear H0
      by_cases hlt : k < L1
      · obtain ⟨v, A, hT, hRl⟩ := HK.out
        obtain ⟨g1, off1, rfl, hcl⟩ : ∃ g off, a1 = some ⟨g, off, none⟩ ∧ wr.rangeAt g (off + k * 68) (cs1.getD k ⟨0, 0, 0, [], undef⟩).cells := by
          rcases (HCS1.out.kept hT.below).cells with e | ⟨g, off, e, h⟩
          · rw [e] at HL1; have := HL1.out; simp at this; omega
          · exact ⟨g, off, e, h k (by rw [HL1.out]; exact hlt)⟩
        have hsc := HCS1.out.sec (cs1.getD k ⟨0, 0, 0, [], undef⟩) (by rw [List.getD_eq_getElem?_getD, List.getElem?_eq_getElem (by rw [HL1.out]; exact hlt)]; simp)
        generalize cs1.getD k ⟨0, 0, 0, [], undef⟩ = cc at *
        obtain ⟨wh, at', nm, S, kpv⟩ := cc
        obtain ⟨hS, hkpv⟩ := hsc
        dsimp only at hS hkpv
        have hcn := HC.cells_len ⟨wh, at', nm, S, kpv⟩ hS
        have hc1 := HC.cells_one ⟨wh, at', nm, S, kpv⟩ hkpv
        obtain ⟨C, hC⟩ : ∃ C, (HC.cells ⟨wh, at', nm, S, kpv⟩) = C := ⟨_, rfl⟩
        rw [hC] at hcl hcn hc1
        have hcz : (Try.prog.info? 31).map (·.size) = some C.length := by rw [hcn]; exact info_call
        have zc := fun w => (zero_of_info zero_call).1 w
        obtain ⟨Z, hZ⟩ : ∃ Z, (HC.cells ⟨0, 0, 0, List.replicate 64 0, .slice none 0 0⟩) = Z := ⟨_, rfl⟩
        rw [hZ] at zc
        have HZL : Hid (Z.length = 68) := Lib.hid (by rw [← hZ]; rfl)
        have HC1 := Lib.hid hc1
        have HCN := Lib.hid hcn
        have hbw : Below wr.heap.size wr (wr.alloc (.cells C.toArray 31)) := (Below.refl _ _).alloc (Nat.le_refl _) _
        have HBW := hT.kept hbw
        have hrg : (wr.alloc (.cells C.toArray 31)).rangeAt wr.heap.size 0 C := fun j y hy => by
          rw [Nat.zero_add, cell_of_row _ _ j _ _ _ (heap_alloc_last wr _)]
          simpa using hy
        have hnf1 : ¬ Foot d s l v wr.heap.size := fun e => by have := hT.one.lt _ e; omega
        have hs64 : (Try.prog.info? 29).map (·.size) = some (bys S).length := by rw [bys_len, hS]; exact size_64
        obtain ⟨W1, hW1⟩ : ∃ W1, W1 = wr.alloc (.cells C.toArray 31) := ⟨_, rfl⟩
        rw [← hW1] at HBW hrg hbw
        have hWz : wr.heap.size < W1.heap.size := by rw [hW1]; simp
        have HWZ := Lib.hid hWz
        have hrg' := hrg
        rw [← hC] at hrg'
        obtain ⟨b0, b1, b3⟩ := HC.at3 hrg'
        dsimp only at b0 b1 b3
        have b3' := b3
        rw [hW1] at b3'
        have k0 : C[0]? = some (.int .i64 wh) := by rw [← hC]; rfl
        have k1 : C[1]? = some (.int .i64 at') := by rw [← hC]; rfl
        have HT := Lib.hid HBW
        have HRR := Lib.hid hRl
        have HRG := Lib.hid hrg
        have HNF := Lib.hid hnf1
        have HW1 := Lib.hid hW1
        have HCC := Lib.hid hC
        have HSS := Lib.hid hS
        have HBE := Lib.hid hbw
        have hk1 : k + 1 ≤ 61 := by omega
        clear hT hRl hC hZ HBW hrg hrg' hnf1 hc1 hcn hW1 hWz hS hkpv HK hbw
        have HW := Lib.hid (Write_any HT.out.one at' HSS.out (by have := HRR.out.wait; omega) (by have := HRR.out.ops; omega))
        go_wp2_with (first | (with_reducible refine wpList_load_mid rfl 31 (.tmp 50) rfl g1 (off1 + k * 68) rfl C _ hcl Try.underlying31 rfl hcz ?_) | (with_reducible refine wpList_alloc_agg rfl 31 rfl Z.toArray zc ?_) | (with_reducible refine wpList_load_mid rfl 29 (.tmp 55) rfl wr.heap.size 3 rfl (bys S) _ b3' Try.underlying29 rfl hs64 ?_) | (with_reducible refine wpList_store_new rfl 31 (.tmp 14) (.tmp 51) rfl wr Z.toArray C.toArray rfl rfl rfl (by rw [hcz]; simp) (by rw [List.size_toArray, List.size_toArray, HZL.out, HCN.out]) (all_oneCell_toArray HC1.out) ?_))
        rw [← HW1.out]
        refine HW.out.mono ?_
        rintro e w2 ⟨r2, rfl, _, hd2⟩
        obtain ⟨v2, hT2, _⟩ := HT.out.did hd2
        have HT2 := Lib.hid hT2
        have HR2 := Lib.hid (HRR.out.puts (n := 20) at' S)
        clear hd2 hT2 HW b0 b1 b3
        go_wp2_with fail
        go_roundw
        case rel => exact ⟨k + 1, by omega, by go_num, Lib.hid ⟨_, _, HT2.out, HR2.out⟩⟩
        case measure => simp [intOf]; omega
      · obtain rfl : k = L1 := by omega
        obtain ⟨v, A, hT, hRl⟩ := HK.out
        have HT := Lib.hid hT
        have HRR := Lib.hid hRl
        have HF := Lib.hid (Flush_any hT.one (by have := hRl.ops; omega))
        clear hT hRl HK
        go_wp2_with fail
        refine HF.out.mono ?_
        intro e w3 hd3
        obtain ⟨v3, hT3, _⟩ := HT.out.did hd3
        obtain ⟨rfl, _⟩ := hd3
        have HT3 := Lib.hid hT3
        have HR3 := Lib.hid HRR.out.flushes
        have HW3 : Hid (A.flushes.wait = []) := Lib.hid (by
          unfold Dk.DV.flushes
          rw [HRR.out.dead (by omega), if_neg (by simp)]
          rfl)
        generalize A.flushes = A3 at *
        have HSC := Lib.hid (Sectors_any hT3.one (by omega))
        clear hT3 HF HT HRR
        go_wp2_with fail
        refine HSC.out.mono ?_
        rintro e w4 ⟨g, eg, rfl, hr4, hg4, hl4, hb4⟩
        have H1 : Hid (LaterAt w0 d s l g w4.heap.size A3.seen 0 (w4.alloc (.map #[] 0))) := Lib.hid ⟨v3, A3, [], (HT3.out.kept hb4).kept ((Below.refl _ _).alloc (Nat.le_refl _) _), ⟨HR3.out.stop, by have := HR3.out.ops; omega, by have := HR3.out.wait; omega⟩,
          ⟨(fun x hx => by rw [HW3.out] at hx; cases hx), fun i _ => rfl⟩, IntSet.made w4, World.rangeAt_alloc hr4 _, fun e => by have := HT3.out.one.lt g e; omega, by simp; omega, fun e => by have := HT3.out.one.lt _ e; have := hb4.size; omega, by have := HT3.out.below.size; have := hb4.size; omega⟩
        have HRL : Hid (A3.seen.length = 64 * 20) := Lib.hid HT3.out.one.fits.seen
        clear HSC hr4 hg4 hl4 hb4 HT3 HR3 HW3
        generalize A3.seen = R at *
        have HB0 : Hid (∃ y, (bys R)[0]? = some y) := Lib.hid ⟨_, List.getElem?_eq_getElem (by rw [bys_len, HRL.out]; omega)⟩
        have hmm := @run_makeMap Try.prog
        go_wp2_with fail
        generalize w4.heap.size = m at *
        go_loopw [66] (fun (iv : Value) (wr : World) => ∃ k : Nat, k ≤ L2 ∧ iv = .int .i64 k ∧ Hid (LaterAt w0 d s l g m R k wr)) (fun iv _ => L2 - (intOf iv).toNat)
        case atStart => exact ⟨0, Nat.zero_le _, rfl, H1⟩
        case round =>
          obtain ⟨k2, hk2, rfl, HK⟩ := hrel
          clear H1
          by_cases hlt : k2 < L2
          · obtain ⟨v, A, ks, hT, hRl, hSi, hIS, hrR, hfg, hgl, hfm, hom⟩ := HK.out
            have hgm : g ≠ m := fun e => by
              obtain ⟨es, clock, q1, _⟩ := hIS
              have q2 := hrR 0 _ HB0.out.choose_spec
              subst e
              simp [World.cell?, q1] at q2
            obtain ⟨g2, off2, rfl, hcl⟩ : ∃ g off, a2 = some ⟨g, off, none⟩ ∧ wr.rangeAt g (off + k2 * 68) (cs2.getD k2 ⟨0, 0, 0, [], undef⟩).cells := by
              rcases (HCS2.out.kept hT.below).cells with e | ⟨g, off, e, h⟩
              · rw [e] at HL2; have := HL2.out; simp at this; omega
              · exact ⟨g, off, e, h k2 (by rw [HL2.out]; exact hlt)⟩
            have hsc := HCS2.out.sec (cs2.getD k2 ⟨0, 0, 0, [], undef⟩) (by rw [List.getD_eq_getElem?_getD, List.getElem?_eq_getElem (by rw [HL2.out]; exact hlt)]; simp)
            generalize cs2.getD k2 ⟨0, 0, 0, [], undef⟩ = cc at *
            obtain ⟨wh, at', nm, S, kpv⟩ := cc
            obtain ⟨hS, hkpv⟩ := hsc
            dsimp only at hS hkpv
            have hcn := HC.cells_len ⟨wh, at', nm, S, kpv⟩ hS
            have hc1 := HC.cells_one ⟨wh, at', nm, S, kpv⟩ hkpv
            obtain ⟨C, hC⟩ : ∃ C, (HC.cells ⟨wh, at', nm, S, kpv⟩) = C := ⟨_, rfl⟩
            rw [hC] at hcl hcn hc1
            have hcz : (Try.prog.info? 31).map (·.size) = some C.length := by rw [hcn]; exact info_call
            have zc := fun w => (zero_of_info zero_call).1 w
            obtain ⟨Z, hZ⟩ : ∃ Z, (HC.cells ⟨0, 0, 0, List.replicate 64 0, .slice none 0 0⟩) = Z := ⟨_, rfl⟩
            rw [hZ] at zc
            have HZL : Hid (Z.length = 68) := Lib.hid (by rw [← hZ]; rfl)
            have HC1 := Lib.hid hc1
            have HCN := Lib.hid hcn
            have hbw : Below wr.heap.size wr (wr.alloc (.cells C.toArray 31)) := (Below.refl _ _).alloc (Nat.le_refl _) _
            have HBW := hT.kept hbw
            have hrg : (wr.alloc (.cells C.toArray 31)).rangeAt wr.heap.size 0 C := fun j y hy => by
              rw [Nat.zero_add, cell_of_row _ _ j _ _ _ (heap_alloc_last wr _)]
              simpa using hy
            have hnf1 : ¬ Foot d s l v wr.heap.size := fun e => by have := hT.one.lt _ e; omega
            have hs64 : (Try.prog.info? 29).map (·.size) = some (bys S).length := by rw [bys_len, hS]; exact size_64
            obtain ⟨W1, hW1⟩ : ∃ W1, W1 = wr.alloc (.cells C.toArray 31) := ⟨_, rfl⟩
            rw [← hW1] at HBW hrg hbw
            have hWz : wr.heap.size < W1.heap.size := by rw [hW1]; simp
            have HWZ := Lib.hid hWz
            have hrg' := hrg
            rw [← hC] at hrg'
            obtain ⟨b0, b1, b3⟩ := HC.at3 hrg'
            dsimp only at b0 b1 b3
            have b3' := b3
            rw [hW1] at b3'
            have k0 : C[0]? = some (.int .i64 wh) := by rw [← hC]; rfl
            have k1 : C[1]? = some (.int .i64 at') := by rw [← hC]; rfl
            have HT := Lib.hid HBW
            have HRR := Lib.hid hRl
            have HRG := Lib.hid hrg
            have HNF := Lib.hid hnf1
            have HW1 := Lib.hid hW1
            have HCC := Lib.hid hC
            have HSS := Lib.hid hS
            have HBE := Lib.hid hbw
            have hk1 : k2 + 1 ≤ 61 := by omega
            clear hT hRl hC hZ HBW hrg hrg' hnf1 hc1 hcn hW1 hWz hS hkpv HK hbw
            have HIS := Lib.hid (hIS.past (HBE.out.block m hIS.lt))
            have HGR : Hid (W1.rangeAt g 0 (bys R)) := Lib.hid fun j y hy => (HBE.out.cell (p := ⟨g, 0 + j, none⟩) hgl).trans (hrR j y hy)
            have HGL : Hid (g < W1.heap.size) := Lib.hid (Nat.lt_of_lt_of_le hgl HBE.out.size)
            have HFG := Lib.hid (And.intro hfg (And.intro hfm (And.intro hom hgm)))
            have HMB : Hid (wr.heap.size ≠ m) := Lib.hid (by have := hIS.lt; omega)
            have HSI := Lib.hid hSi
            have HW := Lib.hid (Write_any HT.out.one at' HSS.out (by have := HRR.out.wait; omega) (by have := HRR.out.ops; omega))
            clear hSi hIS hrR hfg hgl hfm hom hgm
            go_wp2_with (first | (with_reducible refine wpList_load_mid rfl 31 (.tmp 68) rfl g2 (off2 + k2 * 68) rfl C _ hcl Try.underlying31 rfl hcz ?_) | (with_reducible refine wpList_alloc_agg rfl 31 rfl Z.toArray zc ?_) | (with_reducible refine wpList_load_mid rfl 29 (.tmp 73) rfl wr.heap.size 3 rfl (bys S) _ b3' Try.underlying29 rfl hs64 ?_) | (with_reducible refine wpList_store_new rfl 31 (.tmp 18) (.tmp 69) rfl wr Z.toArray C.toArray rfl rfl rfl (by rw [hcz]; simp) (by rw [List.size_toArray, List.size_toArray, HZL.out, HCN.out]) (all_oneCell_toArray HC1.out) ?_))
            rw [← HW1.out]
            refine HW.out.mono ?_
            rintro e w2 ⟨r2, rfl, hr2, hd2⟩
            obtain ⟨v2, hT2, hf2⟩ := HT.out.did hd2
            have HT2 := Lib.hid hT2
            have HR2 := Lib.hid (HRR.out.puts (n := 20) at' S)
            have HIS2 := Lib.hid (hd2.set HIS.out HFG.out.2.1)
            have HGR2 := Lib.hid (hd2.range HGR.out HGL.out HFG.out.1)
            have HFG2 := Lib.hid (And.intro (hf2 g HGL.out HFG.out.1) (hf2 m HIS.out.lt HFG.out.2.1))
            have hcr := hd2.range HRG.out HWZ.out HNF.out
            rw [← HCC.out] at hcr
            obtain ⟨z0, z1, z3⟩ := HC.at3 hcr
            dsimp only at z0 z1 z3
            have HGL2 : Hid (g < w2.heap.size) := Lib.hid (World.block_lt_of_cell? _ _ (HGR2.out 0 _ HB0.out.choose_spec))
            by_cases hin : 0 ≤ at' ∧ at' < ((20 : Nat) : Int)
            · have hr0 : ((r2 : Int) == 0) = true := by simpa using hr2.2 hin
              have HS2 := Lib.hid (HSI.out.put HRR.out (by omega) HT.out.one.fits HSS.out hin)
              clear hd2 hT2 hf2 hcr HW b0 b1 b3 hin hr2
              go_wp2_with (with_reducible refine wpList_set_put rfl (.tmp 77) (.tmp 79) (.const (.bool true)) rfl Try.underlying35 Try.underlying3 m rfl at' rfl rfl ks HIS2.out ?_; intro w3 hIS3 hc3)
              have hT3 : One w0 w3 20 d s l v2 (A.puts 20 at' S) := ⟨HT2.out.one.apart hc3 (fun j hj e => HFG2.out.2 (e ▸ hj)), HT2.out.old, HT2.out.below.trans (hc3.below (fun k hk => hk ▸ HFG.out.2.2.1) HT2.out.below.size)⟩
              have hGR3 : w3.rangeAt g 0 (bys R) := fun j y hy => (World.cell?_of_block (hc3.block g HGL2.out HFG.out.2.2.2)).trans (HGR2.out j y hy)
              have HEND : Hid (LaterAt w0 d s l g m R (k2 + 1) w3) := Lib.hid ⟨v2, _, _, hT3, HR2.out, HS2.out, hIS3, hGR3, HFG2.out.1, Nat.lt_of_lt_of_le HGL2.out hc3.size, HFG2.out.2, HFG.out.2.2.1⟩
              clear hIS3 hc3 hT3 hGR3
              go_wp2_with fail
              go_roundw
              case rel => exact ⟨k2 + 1, by omega, by go_num, HEND⟩
              case measure => simp [intOf]; omega
            · have hr0 : ((r2 : Int) == 0) = false := by
                have : ¬ r2 = 0 := fun e => hin (hr2.1 e)
                simpa using this
              have HS2 := Lib.hid (HSI.out.not (S := S) hin)
              have HEND : Hid (LaterAt w0 d s l g m R (k2 + 1) w2) := Lib.hid ⟨v2, _, _, hT2, HR2.out, HS2.out, HIS2.out, HGR2.out, HFG2.out.1, HGL2.out, HFG2.out.2, HFG.out.2.2.1⟩
              clear hd2 hT2 hf2 hcr HW b0 b1 b3 hin hr2
              go_wp2_with fail
              go_roundw
              case rel => exact ⟨k2 + 1, by omega, by go_num, HEND⟩
              case measure => simp [intOf]; omega
          · obtain rfl : k2 = L2 := by omega
            obtain ⟨v, A, ks, hT, hRl, hSi, hIS, hrR, hfg, hgl, hfm, hom⟩ := HK.out
            have HKA : Hid (∀ W v, Below w0.heap.size w0 W → (∀ j, Foot d s l v j → w0.heap.size ≤ j) → CrashArg W d s l v a3 kp tear) := Lib.hid fun W v hb ho =>
              ⟨HKP.out.kept hb, by rw [HL3.out]; omega, HTE.out.1, HTE.out.2, by
                rcases HKP.out with e | ⟨gk, off, rfl, hk⟩
                · exact .inl e
                · cases hkk : kp with
                  | nil => exact .inl rfl
                  | cons b t =>
                    refine .inr fun x hx hf => ?_
                    cases hx
                    have h1 := World.block_lt_of_cell? _ _ (hk 0 b (by rw [hkk]; rfl))
                    have h2 := ho _ hf
                    dsimp only at h1 h2
                    omega⟩
            have HC1 := Lib.hid (Crash_any hT.one (c := c3) (torn := torn) (HKA.out wr v hT.below hT.old))
            rw [HL3.out] at HC1
            obtain ⟨M, hM⟩ : ∃ M, muchN kp torn tear = M := ⟨_, rfl⟩
            rw [hM] at HC1
            have HT := Lib.hid hT
            have HIS := Lib.hid hIS
            have HGR := Lib.hid hrR
            have HFG := Lib.hid (And.intro hfg (And.intro hgl (And.intro hfm hom)))
            have HEQ : Hid (∀ i : Nat, ¬ (i : Int) ∈ ks → Dk.sec (A.crash M).seen i = Dk.sec R i) := Lib.hid fun i hi => by
              rw [Dk.crash_sec hT.one.fits (fun x hx e => hi (by rw [← e]; exact hSi.wait x hx))]
              exact hSi.sec i hi
            have HM := Lib.hid hM
            clear hT hRl hSi hIS hrR hfg hgl hfm hom hM HK
            go_wp2_with fail
            refine HC1.out.mono ?_
            intro e w2 hd2
            obtain ⟨v2, hT2, hf2⟩ := HT.out.did hd2
            have HIS2 := Lib.hid (hd2.set HIS.out HFG.out.2.2.1)
            have HGR2 := Lib.hid (hd2.range HGR.out HFG.out.2.1 HFG.out.1)
            have HFG2 := Lib.hid (And.intro (hf2 g HFG.out.2.1 HFG.out.1) (hf2 m HIS.out.lt HFG.out.2.2.1))
            obtain ⟨rfl, _⟩ := hd2
            have HT2 := Lib.hid hT2
            have HSC := Lib.hid (Sectors_any hT2.one (by omega))
            clear hT2 hf2 HC1 HT HIS HGR
            go_wp2_with fail
            refine HSC.out.mono ?_
            rintro e w3 ⟨g2, e2, rfl, hr3, hg3, hl3, hb3⟩
            have HT3 := Lib.hid (HT2.out.kept hb3)
            have HIS3 := Lib.hid (HIS2.out.past (hb3.block m HIS2.out.lt))
            have HGR3 : Hid (w3.rangeAt g 0 (bys R)) := Lib.hid fun j y hy => (hb3.cell (p := ⟨g, 0 + j, none⟩) (World.block_lt_of_cell? _ _ (HGR2.out j y hy))).trans (HGR2.out j y hy)
            have HR3 := Lib.hid hr3
            have HF3 : Hid (¬ Foot d s l v2 g2 ∧ g2 < w3.heap.size) := Lib.hid ⟨fun e => by have := HT2.out.one.lt _ e; omega, hl3⟩
            have HC2 := Lib.hid (Crash_any HT3.out.one (c := c3) (torn := torn) (HKA.out w3 v2 HT3.out.below HT3.out.old))
            rw [HL3.out, HM.out] at HC2
            clear hr3 hg3 hl3 hb3 HSC HT2 HIS2 HGR2
            go_wp2_with fail
            refine HC2.out.mono ?_
            intro e w4 hd4
            obtain ⟨v4, hT4, hf4⟩ := HT3.out.did hd4
            have HIS4 := Lib.hid (hd4.set HIS3.out HFG2.out.2)
            have HGR4 := Lib.hid (hd4.range HGR3.out (World.block_lt_of_cell? _ _ (HGR3.out 0 _ HB0.out.choose_spec)) HFG2.out.1)
            have HR4 := Lib.hid (hd4.range HR3.out HF3.out.2 HF3.out.1)
            obtain ⟨rfl, _⟩ := hd4
            have HT4 := Lib.hid hT4
            have HSC := Lib.hid (Sectors_any hT4.one (by omega))
            rw [Dk.crash_twice] at HSC
            have HLN : Hid ((A.crash M).seen.length = 64 * 20) := Lib.hid HT3.out.one.fits.seen
            clear hT4 hf4 HC2 HT3 HIS3 HGR3 HR3
            generalize (A.crash M).seen = R2 at *
            go_wp2_with fail
            refine HSC.out.mono ?_
            rintro e w5 ⟨g3, e3, rfl, hr5, hg5, hl5, hb5⟩
            have HT5 := Lib.hid (HT4.out.kept hb5)
            have HIS5 := Lib.hid (HIS4.out.past (hb5.block m HIS4.out.lt))
            have HGR5 : Hid (w5.rangeAt g 0 (bys R)) := Lib.hid fun j y hy => (hb5.cell (p := ⟨g, 0 + j, none⟩) (World.block_lt_of_cell? _ _ (HGR4.out j y hy))).trans (HGR4.out j y hy)
            have HR5 : Hid (w5.rangeAt g2 0 (bys R2)) := Lib.hid fun j y hy => (hb5.cell (p := ⟨g2, 0 + j, none⟩) (World.block_lt_of_cell? _ _ (HR4.out j y hy))).trans (HR4.out j y hy)
            have HSM := Lib.hid (Same_yes (w := w5) (n := 20) g3 g2 e3 e2 R2 HLN.out (by omega) hr5 HR5.out)
            clear hr5 hg5 hl5 hb5 HSC HT4 HIS4 HGR4 HR4
            go_wp2_with fail
            refine HSM.out.mono ?_
            rintro e w6 ⟨rfl, j1, rfl⟩
            clear HSM
            go_wp2_with fail
            go_loopw [110] (fun (iv : Value) (wr : World) => ∃ k q : Nat, k ≤ 20 ∧ iv = .int .i64 k ∧ wr = w5.drewN q) (fun iv _ => 20 - (intOf iv).toNat)
            case atStart => exact ⟨0, j1, Nat.zero_le _, rfl, rfl⟩
            case round =>
              obtain ⟨k3, q3, hk3, rfl, rfl⟩ := hrel
              by_cases hlt : k3 < 20
              · have hk0 : (0 : Int) ≤ (k3 : Int) := by omega
                have hk20 : (k3 : Int) < 20 := by omega
                have zb := zero_bool
                have hS1 : IntSet (w5.drewN q3).drew m ks := HIS5.out.past rfl
                by_cases hin : (k3 : Int) ∈ ks
                · have hde : decide ((k3 : Int) ∈ ks) = true := by simpa using hin
                  go_wp2_with fail
                  refine wp_region_held_drew (S := (fun w' => IntSet w' m ks)) (by kernel_rfl) ?_ (fun hHeld => ?_)
                  · exact hS1
                  refine wpAnyH_take (i := 0) (v := ?_) (by rfl) (by kernel_rfl) (by kernel_rfl) (by kernel_rfl) (by exact fun _ _ _ h => h) (Or.inl ⟨by rfl, ?_⟩) hHeld ?_
                  rotate_left 1
                  · intro w' hSw
                    (try dsimp only at hSw)
                    go_simp
                    try with_reducible rfl
                  try simp only [Act.put, List.setIfInBounds_toArray, List.set_cons_zero, List.set_cons_succ, List.getElem_toArray, List.getElem_cons_zero, List.getElem_cons_succ]
                  refine wpAnyH_take (i := 1) (v := ?_) (by rfl) (by kernel_rfl) (by kernel_rfl) (by kernel_rfl) (by exact fun _ _ _ h => h) (Or.inl ⟨by rfl, ?_⟩) hHeld ?_
                  rotate_left 1
                  · intro w' hSw
                    (try dsimp only at hSw)
                    go_simp
                    try with_reducible rfl
                  try simp only [Act.put, List.setIfInBounds_toArray, List.set_cons_zero, List.set_cons_succ, List.getElem_toArray, List.getElem_cons_zero, List.getElem_cons_succ]
                  refine wpAnyH_take (i := 2) (v := .bool true) (by rfl) (by kernel_rfl) (by kernel_rfl) (by kernel_rfl) (by exact fun _ _ _ h => h) (Or.inl ⟨by rfl, ?_⟩) hHeld ?_
                  · intro w' hSw
                    exact run_lookup_yes (.tmp 113) (.tmp 114) rfl Try.underlying35 Try.underlying3 (zb w') m rfl (k3 : Int) rfl ks hSw hin
                  try simp only [Act.put, List.setIfInBounds_toArray, List.set_cons_zero, List.set_cons_succ, List.getElem_toArray, List.getElem_cons_zero, List.getElem_cons_succ]
                  refine wpAnyH_take (i := 3) (v := ?_) (by rfl) (by kernel_rfl) (by kernel_rfl) (by kernel_rfl) (by exact fun _ _ _ h => h) (Or.inl ⟨by rfl, ?_⟩) hHeld ?_
                  rotate_left 1
                  · intro w' hSw
                    (try dsimp only at hSw)
                    go_simp
                    try with_reducible rfl
                  try simp only [Act.put, List.setIfInBounds_toArray, List.set_cons_zero, List.set_cons_succ, List.getElem_toArray, List.getElem_cons_zero, List.getElem_cons_succ]
                  refine wpAnyH_take (i := 4) (v := ?_) (by rfl) (by kernel_rfl) (by kernel_rfl) (by kernel_rfl) (by exact fun _ _ _ h => h) (Or.inl ⟨by rfl, ?_⟩) hHeld ?_
                  rotate_left 1
                  · intro w' hSw
                    (try dsimp only at hSw)
                    go_simp
                    try with_reducible rfl
                  try simp only [Act.put, List.setIfInBounds_toArray, List.set_cons_zero, List.set_cons_succ, List.getElem_toArray, List.getElem_cons_zero, List.getElem_cons_succ]
                  refine wpAnyH_take (i := 5) (v := undef) (by rfl) (by kernel_rfl) (by kernel_rfl) (by kernel_rfl) (by exact fun _ _ _ h => h) (Or.inr ⟨by rfl, rfl⟩) hHeld ?_
                  try simp only [Act.put, List.setIfInBounds_toArray, List.set_cons_zero, List.set_cons_succ, List.getElem_toArray, List.getElem_cons_zero, List.getElem_cons_succ]
                  refine wpAnyH_take (i := 6) (v := undef) (by rfl) (by kernel_rfl) (by kernel_rfl) (by kernel_rfl) (by exact fun _ _ _ h => h) (Or.inr ⟨by rfl, rfl⟩) hHeld ?_
                  try simp only [Act.put, List.setIfInBounds_toArray, List.set_cons_zero, List.set_cons_succ, List.getElem_toArray, List.getElem_cons_zero, List.getElem_cons_succ]
                  refine wpAnyH_take (i := 7) (v := undef) (by rfl) (by kernel_rfl) (by kernel_rfl) (by kernel_rfl) (by exact fun _ _ _ h => h) (Or.inr ⟨by rfl, rfl⟩) hHeld ?_
                  try simp only [Act.put, List.setIfInBounds_toArray, List.set_cons_zero, List.set_cons_succ, List.getElem_toArray, List.getElem_cons_zero, List.getElem_cons_succ]
                  refine wpAnyH_take (i := 8) (v := undef) (by rfl) (by kernel_rfl) (by kernel_rfl) (by kernel_rfl) (by exact fun _ _ _ h => h) (Or.inr ⟨by rfl, rfl⟩) hHeld ?_
                  try simp only [Act.put, List.setIfInBounds_toArray, List.set_cons_zero, List.set_cons_succ, List.getElem_toArray, List.getElem_cons_zero, List.getElem_cons_succ]
                  refine wpAnyH_take (i := 9) (v := undef) (by rfl) (by kernel_rfl) (by kernel_rfl) (by kernel_rfl) (by exact fun _ _ _ h => h) (Or.inr ⟨by rfl, rfl⟩) hHeld ?_
                  try simp only [Act.put, List.setIfInBounds_toArray, List.set_cons_zero, List.set_cons_succ, List.getElem_toArray, List.getElem_cons_zero, List.getElem_cons_succ]
                  refine wpAnyH_take (i := 10) (v := undef) (by rfl) (by kernel_rfl) (by kernel_rfl) (by kernel_rfl) (by exact fun _ _ _ h => h) (Or.inr ⟨by rfl, rfl⟩) hHeld ?_
                  try simp only [Act.put, List.setIfInBounds_toArray, List.set_cons_zero, List.set_cons_succ, List.getElem_toArray, List.getElem_cons_zero, List.getElem_cons_succ]
                  refine wpAnyH_take (i := 11) (v := undef) (by rfl) (by kernel_rfl) (by kernel_rfl) (by kernel_rfl) (by exact fun _ _ _ h => h) (Or.inr ⟨by rfl, rfl⟩) hHeld ?_
                  try simp only [Act.put, List.setIfInBounds_toArray, List.set_cons_zero, List.set_cons_succ, List.getElem_toArray, List.getElem_cons_zero, List.getElem_cons_succ]
                  refine wpAnyH_take (i := 12) (v := undef) (by rfl) (by kernel_rfl) (by kernel_rfl) (by kernel_rfl) (by exact fun _ _ _ h => h) (Or.inr ⟨by rfl, rfl⟩) hHeld ?_
                  try simp only [Act.put, List.setIfInBounds_toArray, List.set_cons_zero, List.set_cons_succ, List.getElem_toArray, List.getElem_cons_zero, List.getElem_cons_succ]
                  refine wpAnyH_take (i := 13) (v := undef) (by rfl) (by kernel_rfl) (by kernel_rfl) (by kernel_rfl) (by exact fun _ _ _ h => h) (Or.inr ⟨by rfl, rfl⟩) hHeld ?_
                  try simp only [Act.put, List.setIfInBounds_toArray, List.set_cons_zero, List.set_cons_succ, List.getElem_toArray, List.getElem_cons_zero, List.getElem_cons_succ]
                  refine wpAnyH_take (i := 14) (v := ?_) (by rfl) (by kernel_rfl) (by kernel_rfl) (by kernel_rfl) (by exact fun _ _ _ h => h) (Or.inl ⟨by rfl, ?_⟩) hHeld ?_
                  rotate_left 1
                  · intro w' hSw
                    (try dsimp only at hSw)
                    go_simp
                    try with_reducible rfl
                  try simp only [Act.put, List.setIfInBounds_toArray, List.set_cons_zero, List.set_cons_succ, List.getElem_toArray, List.getElem_cons_zero, List.getElem_cons_succ]
                  refine wpAnyH_done (by kernel_rfl) ?_ _
                  clear hHeld
                  go_wp2_with fail
                  go_roundw
                  case rel => exact ⟨k3 + 1, q3 + 1, by omega, by go_num, rfl⟩
                  case measure => simp [intOf]; omega
                · have hde : decide ((k3 : Int) ∈ ks) = false := by simpa using hin
                  have HS : Hid ((Dk.sec R k3).length = 64) := Lib.hid (Dk.sec_len HRL.out hlt)
                  have hsr : (Try.prog.info? 38).map (·.size) = some (bys (Dk.sec R k3)).length := by rw [bys_len, HS.out]; exact size_sector
                  have hra : ∀ (g : Nat) (R : List Int), w5.rangeAt g 0 (bys R) → (w5.drewN q3).drew.rangeAt g (k3 * 64) (bys (Dk.sec R k3)) := fun g R hg j u hu => by
                    have hu' : (bys R)[k3 * 64 + j]? = some u := by
                      unfold Dk.sec at hu
                      rw [bys_sec, List.getElem?_take, List.getElem?_drop, Nat.mul_comm 64 k3] at hu
                      split at hu
                      · exact hu
                      · cases hu
                    have := hg (k3 * 64 + j) u hu'
                    rw [Nat.zero_add] at this
                    exact this
                  have r1 := hra g2 R2 HR5.out
                  rw [HEQ.out k3 hin] at r1
                  have r2 := hra g R HGR5.out
                  have hself : decide (Dk.sec R k3 = Dk.sec R k3) = true := by simp
                  clear hra
                  go_wp2_with fail
                  refine wp_region_held_drew (S := (fun w' => IntSet w' m ks ∧ w'.rangeAt g2 (k3 * 64) (bys (Dk.sec R k3)) ∧ w'.rangeAt g (k3 * 64) (bys (Dk.sec R k3)))) (by kernel_rfl) ?_ (fun hHeld => ?_)
                  · exact ⟨hS1, r1, r2⟩
                  refine wpAnyH_take (i := 0) (v := ?_) (by rfl) (by kernel_rfl) (by kernel_rfl) (by kernel_rfl) (by exact fun _ _ _ h => h) (Or.inl ⟨by rfl, ?_⟩) hHeld ?_
                  rotate_left 1
                  · intro w' hSw
                    (try dsimp only at hSw)
                    go_simp
                    try with_reducible rfl
                  try simp only [Act.put, List.setIfInBounds_toArray, List.set_cons_zero, List.set_cons_succ, List.getElem_toArray, List.getElem_cons_zero, List.getElem_cons_succ]
                  refine wpAnyH_take (i := 1) (v := ?_) (by rfl) (by kernel_rfl) (by kernel_rfl) (by kernel_rfl) (by exact fun _ _ _ h => h) (Or.inl ⟨by rfl, ?_⟩) hHeld ?_
                  rotate_left 1
                  · intro w' hSw
                    (try dsimp only at hSw)
                    go_simp
                    try with_reducible rfl
                  try simp only [Act.put, List.setIfInBounds_toArray, List.set_cons_zero, List.set_cons_succ, List.getElem_toArray, List.getElem_cons_zero, List.getElem_cons_succ]
                  refine wpAnyH_take (i := 2) (v := .bool false) (by rfl) (by kernel_rfl) (by kernel_rfl) (by kernel_rfl) (by exact fun _ _ _ h => h) (Or.inl ⟨by rfl, ?_⟩) hHeld ?_
                  · intro w' hSw
                    exact run_lookup_no (.tmp 113) (.tmp 114) rfl Try.underlying35 Try.underlying3 (zb w') m rfl (k3 : Int) rfl ks hSw.1 hin
                  try simp only [Act.put, List.setIfInBounds_toArray, List.set_cons_zero, List.set_cons_succ, List.getElem_toArray, List.getElem_cons_zero, List.getElem_cons_succ]
                  refine wpAnyH_take (i := 3) (v := ?_) (by rfl) (by kernel_rfl) (by kernel_rfl) (by kernel_rfl) (by exact fun _ _ _ h => h) (Or.inl ⟨by rfl, ?_⟩) hHeld ?_
                  rotate_left 1
                  · intro w' hSw
                    (try dsimp only at hSw)
                    go_simp
                    try with_reducible rfl
                  try simp only [Act.put, List.setIfInBounds_toArray, List.set_cons_zero, List.set_cons_succ, List.getElem_toArray, List.getElem_cons_zero, List.getElem_cons_succ]
                  refine wpAnyH_take (i := 4) (v := ?_) (by rfl) (by kernel_rfl) (by kernel_rfl) (by kernel_rfl) (by exact fun _ _ _ h => h) (Or.inl ⟨by rfl, ?_⟩) hHeld ?_
                  rotate_left 1
                  · intro w' hSw
                    (try dsimp only at hSw)
                    go_simp
                    try with_reducible rfl
                  try simp only [Act.put, List.setIfInBounds_toArray, List.set_cons_zero, List.set_cons_succ, List.getElem_toArray, List.getElem_cons_zero, List.getElem_cons_succ]
                  refine wpAnyH_take (i := 5) (v := ?_) (by rfl) (by kernel_rfl) (by kernel_rfl) (by kernel_rfl) (by exact fun _ _ _ h => h) (Or.inl ⟨by rfl, ?_⟩) hHeld ?_
                  rotate_left 1
                  · intro w' hSw
                    (try dsimp only at hSw)
                    go_simp
                    try with_reducible rfl
                  try simp only [Act.put, List.setIfInBounds_toArray, List.set_cons_zero, List.set_cons_succ, List.getElem_toArray, List.getElem_cons_zero, List.getElem_cons_succ]
                  refine wpAnyH_take (i := 6) (v := ?_) (by rfl) (by kernel_rfl) (by kernel_rfl) (by kernel_rfl) (by exact fun _ _ _ h => h) (Or.inl ⟨by rfl, ?_⟩) hHeld ?_
                  rotate_left 1
                  · intro w' hSw
                    (try dsimp only at hSw)
                    go_simp
                    try with_reducible rfl
                  try simp only [Act.put, List.setIfInBounds_toArray, List.set_cons_zero, List.set_cons_succ, List.getElem_toArray, List.getElem_cons_zero, List.getElem_cons_succ]
                  refine wpAnyH_take (i := 7) (v := ?_) (by rfl) (by kernel_rfl) (by kernel_rfl) (by kernel_rfl) (by exact fun _ _ _ h => h) (Or.inl ⟨by rfl, ?_⟩) hHeld ?_
                  rotate_left 1
                  · intro w' hSw
                    (try dsimp only at hSw)
                    go_simp
                    try with_reducible rfl
                  try simp only [Act.put, List.setIfInBounds_toArray, List.set_cons_zero, List.set_cons_succ, List.getElem_toArray, List.getElem_cons_zero, List.getElem_cons_succ]
                  refine wpAnyH_take (i := 8) (v := .agg (bys (Dk.sec R k3)).toArray) (by rfl) (by kernel_rfl) (by kernel_rfl) (by kernel_rfl) (by exact fun _ _ _ h => h) (Or.inl ⟨by rfl, ?_⟩) hHeld ?_
                  · intro w' hSw
                    exact run_load_op 38 (.tmp 120) rfl g2 (k3 * 64) rfl (bys (Dk.sec R k3)) _ hSw.2.1 Try.underlying38 rfl hsr
                  try simp only [Act.put, List.setIfInBounds_toArray, List.set_cons_zero, List.set_cons_succ, List.getElem_toArray, List.getElem_cons_zero, List.getElem_cons_succ]
                  refine wpAnyH_take (i := 9) (v := ?_) (by rfl) (by kernel_rfl) (by kernel_rfl) (by kernel_rfl) (by exact fun _ _ _ h => h) (Or.inl ⟨by rfl, ?_⟩) hHeld ?_
                  rotate_left 1
                  · intro w' hSw
                    (try dsimp only at hSw)
                    go_simp
                    try with_reducible rfl
                  try simp only [Act.put, List.setIfInBounds_toArray, List.set_cons_zero, List.set_cons_succ, List.getElem_toArray, List.getElem_cons_zero, List.getElem_cons_succ]
                  refine wpAnyH_take (i := 10) (v := ?_) (by rfl) (by kernel_rfl) (by kernel_rfl) (by kernel_rfl) (by exact fun _ _ _ h => h) (Or.inl ⟨by rfl, ?_⟩) hHeld ?_
                  rotate_left 1
                  · intro w' hSw
                    (try dsimp only at hSw)
                    go_simp
                    try with_reducible rfl
                  try simp only [Act.put, List.setIfInBounds_toArray, List.set_cons_zero, List.set_cons_succ, List.getElem_toArray, List.getElem_cons_zero, List.getElem_cons_succ]
                  refine wpAnyH_take (i := 11) (v := ?_) (by rfl) (by kernel_rfl) (by kernel_rfl) (by kernel_rfl) (by exact fun _ _ _ h => h) (Or.inl ⟨by rfl, ?_⟩) hHeld ?_
                  rotate_left 1
                  · intro w' hSw
                    (try dsimp only at hSw)
                    go_simp
                    try with_reducible rfl
                  try simp only [Act.put, List.setIfInBounds_toArray, List.set_cons_zero, List.set_cons_succ, List.getElem_toArray, List.getElem_cons_zero, List.getElem_cons_succ]
                  refine wpAnyH_take (i := 12) (v := .agg (bys (Dk.sec R k3)).toArray) (by rfl) (by kernel_rfl) (by kernel_rfl) (by kernel_rfl) (by exact fun _ _ _ h => h) (Or.inl ⟨by rfl, ?_⟩) hHeld ?_
                  · intro w' hSw
                    exact run_load_op 38 (.tmp 124) rfl g (k3 * 64) rfl (bys (Dk.sec R k3)) _ hSw.2.2 Try.underlying38 rfl hsr
                  try simp only [Act.put, List.setIfInBounds_toArray, List.set_cons_zero, List.set_cons_succ, List.getElem_toArray, List.getElem_cons_zero, List.getElem_cons_succ]
                  refine wpAnyH_take (i := 13) (v := .bool (!decide (Dk.sec R k3 = Dk.sec R k3))) (by rfl) (by kernel_rfl) (by kernel_rfl) (by kernel_rfl) (by exact fun _ _ _ h => h) (Or.inl ⟨by rfl, ?_⟩) hHeld ?_
                  · intro w' hSw
                    exact run_neq_op _ (.tmp 121) (.tmp 125) rfl _ _ rfl rfl HS.out HS.out
                  try simp only [Act.put, List.setIfInBounds_toArray, List.set_cons_zero, List.set_cons_succ, List.getElem_toArray, List.getElem_cons_zero, List.getElem_cons_succ]
                  refine wpAnyH_take (i := 14) (v := ?_) (by rfl) (by kernel_rfl) (by kernel_rfl) (by kernel_rfl) (by exact fun _ _ _ h => h) (Or.inl ⟨by rfl, ?_⟩) hHeld ?_
                  rotate_left 1
                  · intro w' hSw
                    (try dsimp only at hSw)
                    go_simp
                    try with_reducible rfl
                  try simp only [Act.put, List.setIfInBounds_toArray, List.set_cons_zero, List.set_cons_succ, List.getElem_toArray, List.getElem_cons_zero, List.getElem_cons_succ]
                  refine wpAnyH_done (by kernel_rfl) ?_ _
                  clear hHeld
                  go_wp2_with fail
                  go_roundw
                  case rel => exact ⟨k3 + 1, q3 + 1, by omega, by go_num, rfl⟩
                  case measure => simp [intOf]; omega
              · obtain rfl : k3 = 20 := by omega
                go_wp2_with fail
                go_ret
                exact ⟨rfl, HT5.out.below.trans ((below_drewN _ _).mono HT5.out.below.size)⟩
end Go.Proofs.Ytmgeokkeknageaa
