/-
  Layer 6: Save.
-/
import Derived.Test.YtienhidbgohhcaaSnLoad
import Derived.Test.YtienhidbgohhcaaDkPair
set_option linter.unusedVariables false
set_option linter.unusedSimpArgs false
namespace Go.Proofs.Ytienhidbgohhcaa
open Go.RowKit

/-- A disk, some calls later. -/
def Reach (d s l : Nat) (v : Value) (n : Nat) (w : World) (v' : Value) (A : Dk.DV) (w' : World) : Prop := DkAt w' d s l v' n A ∧ Chg (Foot d s l v) w w' ∧ ∀ k, v'.ownBlock = some k → v.ownBlock = some k ∨ w.heap.size ≤ k
section
variable {w w1 w2 : World} {d s l : Nat} {v v1 : Value} {n : Nat} {A A1 A2 : Dk.DV}
theorem Reach.start (h : DkAt w d s l v n A) : Reach d s l v n w v A w := ⟨h, Chg.refl _ _, fun _ hk => .inl hk⟩
theorem Reach.foot (h : Reach d s l v n w v1 A1 w1) (k : Nat) (hk : Foot d s l v1 k) : Foot d s l v k ∨ w.heap.size ≤ k := by
  rcases hk with hk | hk | hk | hk
  · exact .inl (.inl hk)
  · exact .inl (.inr (.inl hk))
  · exact .inl (.inr (.inr (.inl hk)))
  · exact (h.2.2 k hk).imp (fun e => .inr (.inr (.inr e))) id
theorem Reach.step (h : Reach d s l v n w v1 A1 w1) {e : Ending} (k : Did d s l v1 n A2 w1 e w2) : ∃ v2, Reach d s l v n w v2 A2 w2 := by
  obtain ⟨_, v2, g1, g2, g3⟩ := k
  refine ⟨v2, g1, h.2.1.trans (g2.mono fun k _ hk => h.foot k hk), fun k hk => ?_⟩
  rcases g3 k hk with e | e
  · exact h.2.2 k e
  · exact .inr (Nat.le_trans h.2.1.size e)
theorem Reach.below (h : Reach d s l v n w v1 A1 w1) (hb : Below w1.heap.size w1 w2) : Reach d s l v n w v1 A1 w2 :=
  ⟨h.1.kept hb, h.2.1.trans (Chg.of_below hb), h.2.2⟩
theorem Reach.trans (h : Reach d s l v n w v1 A1 w1) {v2 : Value} (k : Reach d s l v1 n w1 v2 A2 w2) : Reach d s l v n w v2 A2 w2 := by
  refine ⟨k.1, h.2.1.trans (k.2.1.mono fun k _ hk => h.foot k hk), fun j hj => ?_⟩
  rcases k.2.2 j hj with e | e
  · exact h.2.2 j e
  · exact .inr (Nat.le_trans h.2.1.size e)
theorem writes_ops (i : Nat) (S : List Int) (A : Dk.DV) : (A.writes i S).ops ≤ A.ops + 1 := by
  unfold Dk.DV.writes
  split
  · omega
  · exact Nat.le_refl _
theorem Reach.did (h : Reach d s l v n w v1 A1 w1) : Did d s l v n A1 w (.returned (.tuple #[])) w1 := ⟨rfl, v1, h.1, h.2.1, h.2.2⟩
/-- What stays: what is no disk's. -/
theorem Reach.bytes (h : Reach d s l v n w v1 A1 w1) {a : Option Addr} {bs : List Int} (hb : BytesAt w a bs) (hf : ∀ x, 0 < bs.length → a = some x → ¬ Foot d s l v x.block) : BytesAt w1 a bs :=
  hb.chg h.2.1 fun g off e hne => hf _ (by cases bs with | nil => exact absurd rfl hne | cons => simp) e
theorem Reach.apart (h : Reach d s l v n w v1 A1 w1) {a : Option Addr} {bs : List Int} (hb : BytesAt w a bs) (hf : ∀ x, 0 < bs.length → a = some x → ¬ Foot d s l v x.block) : ∀ x, 0 < bs.length → a = some x → ¬ Foot d s l v1 x.block := by
  intro x hl hx hk
  rcases h.foot _ hk with e | e
  · exact hf x hl hx e
  · rcases hb with rfl | ⟨g, off, e', hr⟩
    · simp at hl
    · rw [hx] at e'
      cases e'
      have := World.block_lt_of_cell? _ _ (hr 0 (b8 (bs.getD 0 0)) (by simp [bys]; exact ⟨bs.getD 0 0, by simp [hl], rfl⟩))
      dsimp only at e this
      omega
end
/-- Where the next one goes, and its number. -/
def placeOf (s0 s1 : Shot) (f : Int) : Nat := if newestOf s0 s1 f = 0 then 1 else 0
/-- The disk's state behind a Save. -/
def Dk.DV.saved (n f : Nat) (bs : List Int) (A : Dk.DV) : Dk.DV :=
  (Dk.DV.writes (placeOf (slotOf A.seen n 0) (slotOf A.seen n 1) (f : Int) * (n / 2)) (hdrL ((max (slotOf A.seen n 0).e (slotOf A.seen n 1).e).toNat + 1) bs.length f (crcOf bs).toNat)
    (A.putsTo (placeOf (slotOf A.seen n 0) (slotOf A.seen n 1) (f : Int) * (n / 2)) bs ((bs.length + 63) / 64)).flushes).flushes
theorem slotOf_e (R : List Int) (n i : Nat) : 0 ≤ (slotOf R n i).e ∧ (slotOf R n i).e ≤ 4611686018427387904 := by
  unfold slotOf
  split
  · rename_i h
    split
    · split
      · unfold isHdr at h
        have := of_decide_eq_true h
        exact ⟨by have := this.1; dsimp only; omega, this.2.1⟩
      · simp [Shot.no]
    · simp [Shot.no]
  · simp [Shot.no]
theorem run_build_hdr {o : Oper} {aa : Act} {w : World} {x0 x1 x2 x3 : Operand} (ho : o.op = .build 52 #[(0, x0), (1, x1), (2, x2), (3, x3)]) {e z f c : Int} (h0 : aa.eval x0 = .int .u64 e) (h1 : aa.eval x1 = .int .u64 z) (h2 : aa.eval x2 = .int .u32 f) (h3 : aa.eval x3 = .int .u32 c) :
    (execOp aa.eval o).run Try.prog w = .ok (.value (.agg #[.int .u64 e, .int .u64 z, .int .u32 f, .int .u32 c])) w := by
  have hz := (zero_of_info zero_header).1 w
  have e64 : ∀ w, (sizeOf 50).run Try.prog w = .ok 1 w := fun w => size_of (by kernel_rfl) w
  have e32 : ∀ w, (sizeOf 32).run Try.prog w = .ok 1 w := fun w => size_of (by kernel_rfl) w
  have : (Instr.build 52 #[(0, .int .u64 e), (1, .int .u64 z), (2, .int .u32 f), (3, .int .u32 c)]).run Try.prog w = .ok (.agg #[.int .u64 e, .int .u64 z, .int .u32 f, .int .u32 c]) w := by
    simp [Instr.build, hz, run_underlying Try.underlying52, e64, e32, Instr.fill, Value.cells]
  unfold execOp
  simp [ho, h0, h1, h2, h3, this]
section
variable {w : World} {d s l : Nat} {v : Value} {n : Nat} {A : Dk.DV}
set_option maxRecDepth 100000 in
set_option maxHeartbeats 8000000 in
theorem Save_any (h : DkAt w d s l v n A) (h2 : 2 ≤ n) {f c : Nat} {a : Option Addr} {bs : List Int} (hf : f < 4294967296) (hb : BytesAt w a bs) (hl : bs.length ≤ 64 * (n / 2 - 1)) (hc : bs.length ≤ c) (hfo : ∀ x, 0 < bs.length → a = some x → ¬ Foot d s l v x.block)
    (hw : A.wait.length ≤ 10000) (ho : A.ops ≤ 10000) (hmx : max (slotOf A.seen n 0).e (slotOf A.seen n 1).e ≤ 1000000) :
    Calls Try.prog 7 #[.pointer (some ⟨d, 0, none⟩), .int .u32 (f : Int), .slice a bs.length c] w (Wrote d s l v n (A.saved n f bs) w) := by
  have hns := h.fits.small
  have hbl : bs.length ≤ 32000 := by omega
  have HLEN := Lib.hid (Len_any h)
  have HSS := Lib.hid (slotSectors_any w n (by omega))
  have HRM := Lib.hid (Room_any w n hns)
  have HA := Lib.hid (shots_any h h2)
  have hsv0 : Hid (A.saved n f bs = (Dk.DV.writes (placeOf (slotOf A.seen n 0) (slotOf A.seen n 1) (f : Int) * (n / 2)) (hdrL ((max (slotOf A.seen n 0).e (slotOf A.seen n 1).e).toNat + 1) bs.length f (crcOf bs).toNat)
    (A.putsTo (placeOf (slotOf A.seen n 0) (slotOf A.seen n 1) (f : Int) * (n / 2)) bs ((bs.length + 63) / 64)).flushes).flushes) := Lib.hid rfl
  generalize A.saved n f bs = AS at *
  have he0 := slotOf_e A.seen n 0
  have he1 := slotOf_e A.seen n 1
  generalize slotOf A.seen n 0 = s0 at *
  generalize slotOf A.seen n 1 = s1 at *
  obtain ⟨ep, hep⟩ : ∃ ep : Nat, max s0.e s1.e = (ep : Int) := ⟨(max s0.e s1.e).toNat, by omega⟩
  rw [hep] at hsv0 hmx
  rw [Int.toNat_natCast] at hsv0
  obtain ⟨cs, hcs⟩ : ∃ cs : Nat, crcOf bs = (cs : Int) := ⟨(crcOf bs).toNat, by have := crcOf_range bs; omega⟩
  have hcsl : cs < 4294967296 := by have := crcOf_range bs; omega
  rw [hcs, Int.toNat_natCast] at hsv0
  have HOLD := Lib.hid h
  have HBY := Lib.hid hb
  have HFO := Lib.hid hfo
  have HBD := Lib.hid (And.intro hw ho)
  have HL := Lib.hid hl
  have HC0 := Lib.hid hc
  have hm1 : (1 : Int) ≤ ((n / 2 : Nat) : Int) := by omega
  have hroom : ((bs.length : Nat) : Int) ≤ ((64 * (n / 2 - 1) : Nat) : Int) := by omega
  have H2 := Lib.hid h2
  have HEP := Lib.hid hep
  have HCS := Lib.hid hcs
  have HE0 := Lib.hid he0.1
  have HE1 := Lib.hid he1.1
  have hepne : ((ep : Int) == 4611686018427387904) = false := by simp; omega
  have zs := fun w => (zero_of_info zero_shots).1 w
  have zh := fun w => (zero_of_info zero_header).1 w
  clear h h2 hb hl hc hfo hw ho he0 he1 hep hcs
  go_enter Try.func7, Try.ntmps7
  go_wp2_with (first | (go_at_call 15; refine HLEN.out.mono ?_; rintro e w' ⟨rfl, rfl⟩) | (go_at_call 14; refine HSS.out.mono ?_; rintro e w' ⟨rfl, rfl⟩) | (go_at_call 6; refine HRM.out.mono ?_; rintro e w' ⟨rfl, rfl⟩))
  refine HA.out.mono ?_
  rintro e w1 ⟨a0, c0, a1, c1, rfl, hs0, hs1, hb1, _, _⟩
  have HG := Lib.hid (fun W => greatest_any (w := W) s0 s1 a0 a1 c0 c1 HE0.out HE1.out)
  have HN := Lib.hid (fun W => newest_any (w := W) s0 s1 a0 a1 c0 c1 (f : Int))
  rw [HEP.out] at HG
  have hsv : (Try.prog.info? 46).map (·.size) = some (shotC s0 a0 c0 ++ shotC s1 a1 c1).toArray.size := size_shots
  have hszl : (Try.prog.info? 46).map (·.size) = some (shotC s0 a0 c0 ++ shotC s1 a1 c1).length := size_shots
  have hszz : (zshot ++ zshot).toArray.size = (shotC s0 a0 c0 ++ shotC s1 a1 c1).toArray.size := rfl
  have hall : (shotC s0 a0 c0 ++ shotC s1 a1 c1).toArray.all (·.oneCell') = true := all_oneCell_toArray (by intro v hv; simp [shotC] at hv; rcases hv with rfl | rfl | rfl | rfl | rfl | rfl | rfl | rfl <;> rfl)
  obtain ⟨T, hT⟩ : ∃ T, shotC s0 a0 c0 ++ shotC s1 a1 c1 = T := ⟨_, rfl⟩
  rw [hT] at HG HN hsv hszl hszz hall ⊢
  have HB1 : Hid (Below w.heap.size w (w1.alloc (.cells T.toArray 46))) := Lib.hid (hb1.alloc hb1.size _)
  clear HA hT hs0 hs1 hb1 HLEN HSS HRM
  go_wp2_with (first | (with_reducible refine wpList_alloc_agg rfl 46 rfl (zshot ++ zshot).toArray zs ?_) | (with_reducible refine wpList_store_new rfl 46 (.tmp 7) (.tmp 24) rfl w1 (zshot ++ zshot).toArray T.toArray rfl rfl rfl hsv hszz hall ?_) | (with_reducible refine wpList_load_mid rfl 46 (.tmp 7) rfl w1.heap.size 0 rfl T _ (rangeAt_new _ _ _) Try.underlying46 rfl hszl ?_))
  refine (HG.out _).mono ?_
  rintro e w2 ⟨rfl, hb2⟩
  have hblk : w2.heap[w1.heap.size]? = some (.cells T.toArray 46 (0, 0)) := (hb2.block _ (by simp)).trans (heap_alloc_last w1 _)
  have r2 : w2.rangeAt w1.heap.size 0 T := by
    have := rangeAt_blk hblk 0 T.length
    rwa [List.drop_zero, List.take_of_length_le (Nat.le_refl _)] at this
  have HB2 := Lib.hid (HB1.out.trans (hb2.mono HB1.out.size))
  clear HG HB1 hblk hb2 hsv hszz hall zs
  generalize w1.heap.size = p at *
  go_wp2_with (first | (with_reducible refine wpList_load_mid rfl 46 (.tmp 7) rfl p 0 rfl T _ r2 Try.underlying46 rfl hszl ?_))
  refine (HN.out _).mono ?_
  rintro e w3 ⟨rfl, hb3⟩
  have HB3 := Lib.hid (HB2.out.trans (hb3.mono HB2.out.size))
  clear HN HB2 hb3 r2 hszl
  obtain ⟨nz, hnz⟩ : ∃ x, (newestOf s0 s1 (f : Int) == 0) = x := ⟨_, rfl⟩
  have hsv1 := hsv0.out
  unfold placeOf at hsv1
  have HSM := Lib.hid (fun W (hbw : Below w.heap.size w W) => Sum_any W a bs c (HBY.out.kept hbw) (by omega))
  rw [HCS.out] at HSM
  have hew : IntKind.u64.wrap (ep : Int) = (ep : Int) := IntWalk.u64_in _ (by omega)
  have hew2 : IntKind.u64.wrap ((ep : Int) + 1) = (ep : Int) + 1 := IntWalk.u64_in _ (by omega)
  have hlw : IntKind.u64.wrap (bs.length : Int) = (bs.length : Int) := IntWalk.u64_in _ (by omega)
  have hr3 := (Reach.start HOLD.out).below HB3.out
  have HR3 := Lib.hid hr3
  generalize newestOf s0 s1 (f : Int) = nw at *
  cases nz
  · skip
    rw [if_neg (by simpa using hnz)] at hsv1
    have HSV := Lib.hid hsv1
    clear hsv0 hsv1
    go_wp2_with fail
    refine (HSM.out _ HB3.out).mono ?_
    rintro e w4 ⟨rfl, hb4⟩
    obtain ⟨LH, hHC⟩ : ∃ L, [Value.int .u64 ((ep : Int) + 1), .int .u64 (bs.length : Int), .int .u32 (f : Int), .int .u32 (cs : Int)] = L := ⟨_, rfl⟩
    have hsH : (Try.prog.info? 52).map (·.size) = some LH.length := by rw [← hHC]; exact size_header
    have hsH' : (Try.prog.info? 52).map (·.size) = some LH.toArray.size := by rw [← hHC]; exact size_header
    have hzH : (#[Value.int .u64 0, .int .u64 0, .int .u32 0, .int .u32 0] : Array Value).size = LH.toArray.size := by rw [← hHC]; rfl
    have hallH : LH.toArray.all (·.oneCell') = true := by rw [← hHC]; simp [Value.oneCell']
    have HHa : Hid (Value.agg #[Value.int .u64 ((ep : Int) + 1), .int .u64 (bs.length : Int), .int .u32 (f : Int), .int .u32 (cs : Int)] = .agg LH.toArray) := Lib.hid (by rw [← hHC])
    have HSE0 := Lib.hid (fun W => sector_any W (ep + 1) bs.length f cs (by omega) (by omega) hf hcsl)
    have hr4 := HR3.out.below hb4
    have hr5 := hr4.below ((Below.refl _ _).alloc (Nat.le_refl _) (.cells LH.toArray 52))
    have hz5 : w.heap.size ≤ w4.heap.size := hr4.2.1.size
    have hblk5 : (w4.alloc (.cells LH.toArray 52)).heap[w4.heap.size]? = some (.cells LH.toArray 52 (0, 0)) := heap_alloc_last _ _
    have hbw5 : Below w.heap.size w (w4.alloc (.cells LH.toArray 52)) := (HB3.out.trans (hb4.mono HB3.out.size)).alloc hz5 _
    obtain ⟨W5, hW5⟩ : ∃ W5, W5 = w4.alloc (.cells LH.toArray 52) := ⟨_, rfl⟩
    rw [← hW5] at hr5 hblk5 hbw5
    have HW5 := Lib.hid hW5
    have HWT := Lib.hid (write_any hr5.1 (slot := 0) (c := c) (by omega) (HBY.out.kept hbw5) HL.out HC0.out HFO.out (by have := HBD.out.1; omega) (by have := HBD.out.2; omega))
    have HR5 := Lib.hid hr5
    have HB5 := Lib.hid hblk5
    have hp10 : ¬ Foot d s l v w4.heap.size := fun hk => by have := HOLD.out.lt _ hk; omega
    have HP10 := Lib.hid hp10
    clear hHC hr4 hr5 hblk5 hbw5 hb4 hW5 HSM hp10
    go_wp2_with (first | (refine wpList_val (.agg LH.toArray) (by rw [← HHa.out]; exact run_build_hdr (by with_reducible rfl) (by rfl) (by rfl) (by rfl) (by rfl)) (by rfl) ?_) | (with_reducible refine wpList_alloc_agg rfl 52 rfl #[Value.int .u64 0, .int .u64 0, .int .u32 0, .int .u32 0] zh ?_) | (with_reducible refine wpList_store_new rfl 52 (.tmp 10) (.tmp 43) rfl w4 #[Value.int .u64 0, .int .u64 0, .int .u32 0, .int .u32 0] LH.toArray rfl rfl rfl hsH' hzH hallH ?_))
    rw [← HW5.out]
    refine HWT.out.mono ?_
    rintro e w6 hd6
    have HD6 := Lib.hid hd6
    obtain ⟨rfl, _⟩ := hd6
    obtain ⟨v6, hr6⟩ := (Reach.start HR5.out.1).step HD6.out
    obtain ⟨q1, q2, q3⟩ := putsTo_bounds (0 * (n / 2)) bs ((bs.length + 63) / 64) A
    have HFL := Lib.hid (Flush_any hr6.1 (by have := HBD.out.2; omega))
    have HR6 := Lib.hid hr6
    have HQ := Lib.hid (And.intro q1 q2)
    clear HWT HD6 hr6 q1 q2 q3
    go_wp2_with fail
    refine HFL.out.mono ?_
    intro e w7 hd7
    have HD7 := Lib.hid hd7
    obtain ⟨rfl, _⟩ := hd7
    obtain ⟨v7, hr7⟩ := HR6.out.step HD7.out
    have hr7d := hr7.below ((Below.refl _ _).drew)
    have hlt5 : w4.heap.size < W5.heap.size := (Array.getElem?_eq_some_iff.1 HB5.out).1
    have hb7 : w7.drew.heap[w4.heap.size]? = some (.cells LH.toArray 52 (0, 0)) := (hr7d.2.1.block _ hlt5 HP10.out).trans HB5.out
    have hlt7 := (Array.getElem?_eq_some_iff.1 hb7).1
    have rh : w7.drew.rangeAt w4.heap.size 0 LH := by
      have := rangeAt_blk hb7 0 LH.length
      rwa [List.drop_zero, List.take_of_length_le (Nat.le_refl _)] at this
    have hp7 : ¬ Foot d s l v7 w4.heap.size := fun hk => by
      rcases hr7.foot _ hk with h | h
      · exact HP10.out h
      · omega
    have HHA : Hid (Calls Try.prog 22 #[.pointer (some ⟨d, 0, none⟩), .int .i64 0] w7.drew fun e w' => e = .returned (.int .i64 ((0 * (n / 2) : Nat) : Int)) ∧ w7.drew = w') := Lib.hid (headerAt_any hr7d.1 0 (by omega))
    have HSE := Lib.hid (HSE0.out w7.drew)
    have HKH : Hid (∀ W, Below w7.drew.heap.size w7.drew W → W.rangeAt w4.heap.size 0 LH) := Lib.hid fun W h j u hu => (h.cell (p := ⟨w4.heap.size, 0 + j, none⟩) hlt7).trans (rh j u hu)
    obtain ⟨f1, f2, f3⟩ := Fits.flushes (A := A.putsTo (0 * (n / 2)) bs ((bs.length + 63) / 64))
    have hi7 : 0 * (n / 2) < n := by have := H2.out; omega
    have HWR : Hid (∀ W, Below w7.drew.heap.size w7.drew W → Calls Try.prog 21 #[.pointer (some ⟨d, 0, none⟩), .int .i64 ((0 * (n / 2) : Nat) : Int), .agg (bys (hdrL (ep + 1) bs.length f cs)).toArray] W (Wrote d s l v7 n ((A.putsTo (0 * (n / 2)) bs ((bs.length + 63) / 64)).flushes.writes (0 * (n / 2)) (hdrL (ep + 1) bs.length f cs)) W)) := Lib.hid fun W hb =>
      Write_yes (hr7d.1.kept hb) hi7 (hdrL_len _ _ _ _) (by have := HQ.out.2; have := HBD.out.1; omega) (by have := HQ.out.1; have := HBD.out.2; omega)
    have HKP : Hid (∀ W W', Below w7.drew.heap.size w7.drew W → Did d s l v7 n ((A.putsTo (0 * (n / 2)) bs ((bs.length + 63) / 64)).flushes.writes (0 * (n / 2)) (hdrL (ep + 1) bs.length f cs)) W (.returned (.tuple #[])) W' → W'.rangeAt w4.heap.size 0 LH) := Lib.hid fun W W' h k => Did.range k (HKH.out W h) (Nat.lt_of_lt_of_le hlt7 h.size) hp7
    have HR7 := Lib.hid hr7d
    have hHe : (((ep + 1 : Nat) : Int)) = (ep : Int) + 1 := by omega
    rw [hHe, HHa.out] at HSE
    have HQ7 := Lib.hid (And.intro f1 f2)
    obtain ⟨at7, hat7⟩ : ∃ x, 0 * (n / 2) = x := ⟨_, rfl⟩
    rw [hat7] at HHA HWR HKP HSV
    clear HFL HD7 hr7 hr7d hlt5 hb7 hlt7 hp7 f1 f2 f3 hi7 HSE0 HR6
    generalize hdrL (ep + 1) bs.length f cs = HL2 at *
    generalize w4.heap.size = p10 at *
    go_wp2_with fail
    refine wp_region_held_drew (S := (fun w' => w'.rangeAt p10 0 LH)) (by kernel_rfl) ?_ (fun hHeld => ?_)
    · exact rh
    refine wpAnyH_take (i := 0) (v := ?_) (by rfl) (by kernel_rfl) (by kernel_rfl) (by kernel_rfl) (by exact fun _ _ _ h => h) (Or.inl ⟨by rfl, ?_⟩) hHeld ?_
    rotate_left 1
    · intro w' hSw
      (try dsimp only at hSw)
      go_simp
      try with_reducible rfl
    try simp only [Act.put, List.setIfInBounds_toArray, List.set_cons_zero, List.set_cons_succ, List.getElem_toArray, List.getElem_cons_zero, List.getElem_cons_succ]
    refine wpAnyH_take (i := 1) (v := ?_) (by rfl) (by kernel_rfl) (by kernel_rfl) (by kernel_rfl) (by exact fun _ _ _ h => h) (Or.inl ⟨by rfl, ?_⟩) hHeld ?_
    rotate_left 1
    · intro w' hSw
      (try dsimp only at hSw)
      go_simp
      try with_reducible rfl
    try simp only [Act.put, List.setIfInBounds_toArray, List.set_cons_zero, List.set_cons_succ, List.getElem_toArray, List.getElem_cons_zero, List.getElem_cons_succ]
    refine wpAnyH_take (i := 2) (v := ?_) (by rfl) (by kernel_rfl) (by kernel_rfl) (by kernel_rfl) (by exact fun _ _ _ h => h) (Or.inl ⟨by rfl, ?_⟩) hHeld ?_
    rotate_left 1
    · intro w' hSw
      (try dsimp only at hSw)
      go_simp
      try with_reducible rfl
    try simp only [Act.put, List.setIfInBounds_toArray, List.set_cons_zero, List.set_cons_succ, List.getElem_toArray, List.getElem_cons_zero, List.getElem_cons_succ]
    refine wpAnyH_take (i := 4) (v := .agg LH.toArray) (by rfl) (by kernel_rfl) (by kernel_rfl) (by kernel_rfl) (by exact fun _ _ _ h => h) (Or.inl ⟨by rfl, ?_⟩) hHeld ?_
    · intro w' hSw
      exact run_load_op 52 (.tmp 10) rfl p10 0 rfl LH _ hSw Try.underlying52 rfl hsH
    try simp only [Act.put, List.setIfInBounds_toArray, List.set_cons_zero, List.set_cons_succ, List.getElem_toArray, List.getElem_cons_zero, List.getElem_cons_succ]
    refine wpAnyH_ready (rs := [3]) (by kernel_rfl) (by simp) ?_
    refine AllReadyH.cons (by rfl) (fun K hK => ?_) AllReadyH.nil
    go_simp
    with_reducible refine (HHA.out).mono ?_
    rintro e w' ⟨rfl, rfl⟩
    refine hK.out _ _ ?_ (fun hHeld => ?_)
    · exact hHeld
    clear hK K
    try simp only [Act.put, List.setIfInBounds_toArray, List.set_cons_zero, List.set_cons_succ, List.getElem_toArray, List.getElem_cons_zero, List.getElem_cons_succ]
    refine wpAnyH_ready (rs := [5]) (by kernel_rfl) (by simp) ?_
    refine AllReadyH.cons (by rfl) (fun K hK => ?_) AllReadyH.nil
    go_simp
    with_reducible refine (HSE.out).mono ?_
    rintro e w8 ⟨rfl, hb8⟩
    refine hK.out _ _ ?_ (fun hHeld => ?_)
    · exact HKH.out _ hb8
    clear hK K
    try simp only [Act.put, List.setIfInBounds_toArray, List.set_cons_zero, List.set_cons_succ, List.getElem_toArray, List.getElem_cons_zero, List.getElem_cons_succ]
    refine wpAnyH_ready (rs := [6]) (by kernel_rfl) (by simp) ?_
    refine AllReadyH.cons (by rfl) (fun K hK => ?_) AllReadyH.nil
    go_simp
    with_reducible refine (HWR.out _ hb8).mono ?_
    rintro e w9 ⟨rfl, hd9⟩
    have hr9 := HKP.out _ _ hb8 hd9
    refine hK.out _ _ ?_ (fun hHeld => ?_)
    · exact hr9
    clear hK K
    try simp only [Act.put, List.setIfInBounds_toArray, List.set_cons_zero, List.set_cons_succ, List.getElem_toArray, List.getElem_cons_zero, List.getElem_cons_succ]
    refine wpAnyH_done (by kernel_rfl) ?_ _
    clear hHeld
    have hr8 := HR7.out.below hb8
    obtain ⟨v9, hr9⟩ := hr8.step hd9
    have HR9 := Lib.hid hr9
    have HFL := Lib.hid (Flush_any hr9.1 (by
      have h1 := HQ.out.1
      have h2 := HBD.out.2
      have h3 := HQ7.out.1
      have h4 := writes_ops at7 HL2 ((A.putsTo at7 bs ((bs.length + 63) / 64)).flushes)
      rw [hat7] at h1 h3
      omega))
    clear hb8 hd9 hr8 hr9 HKP HWR HHA HSE HKH
    go_wp2_with fail
    refine HFL.out.mono ?_
    intro e w10 hd10
    have HD10 := Lib.hid hd10
    obtain ⟨rfl, _⟩ := hd10
    obtain ⟨v10, hr10⟩ := HR9.out.step HD10.out
    have HEND : Hid (Wrote d s l v n AS w (.returned (.int .i64 0)) w10) := Lib.hid (by
      rw [HSV.out]
      exact ⟨rfl, (HR5.out.trans hr10).did⟩)
    clear HFL HD10 hr10
    go_wp2_with fail
    go_ret
    exact HEND.out
  · skip
    rw [if_pos (by simpa using hnz)] at hsv1
    have HSV := Lib.hid hsv1
    clear hsv0 hsv1
    go_wp2_with fail
    refine (HSM.out _ HB3.out).mono ?_
    rintro e w4 ⟨rfl, hb4⟩
    obtain ⟨LH, hHC⟩ : ∃ L, [Value.int .u64 ((ep : Int) + 1), .int .u64 (bs.length : Int), .int .u32 (f : Int), .int .u32 (cs : Int)] = L := ⟨_, rfl⟩
    have hsH : (Try.prog.info? 52).map (·.size) = some LH.length := by rw [← hHC]; exact size_header
    have hsH' : (Try.prog.info? 52).map (·.size) = some LH.toArray.size := by rw [← hHC]; exact size_header
    have hzH : (#[Value.int .u64 0, .int .u64 0, .int .u32 0, .int .u32 0] : Array Value).size = LH.toArray.size := by rw [← hHC]; rfl
    have hallH : LH.toArray.all (·.oneCell') = true := by rw [← hHC]; simp [Value.oneCell']
    have HHa : Hid (Value.agg #[Value.int .u64 ((ep : Int) + 1), .int .u64 (bs.length : Int), .int .u32 (f : Int), .int .u32 (cs : Int)] = .agg LH.toArray) := Lib.hid (by rw [← hHC])
    have HSE0 := Lib.hid (fun W => sector_any W (ep + 1) bs.length f cs (by omega) (by omega) hf hcsl)
    have hr4 := HR3.out.below hb4
    have hr5 := hr4.below ((Below.refl _ _).alloc (Nat.le_refl _) (.cells LH.toArray 52))
    have hz5 : w.heap.size ≤ w4.heap.size := hr4.2.1.size
    have hblk5 : (w4.alloc (.cells LH.toArray 52)).heap[w4.heap.size]? = some (.cells LH.toArray 52 (0, 0)) := heap_alloc_last _ _
    have hbw5 : Below w.heap.size w (w4.alloc (.cells LH.toArray 52)) := (HB3.out.trans (hb4.mono HB3.out.size)).alloc hz5 _
    obtain ⟨W5, hW5⟩ : ∃ W5, W5 = w4.alloc (.cells LH.toArray 52) := ⟨_, rfl⟩
    rw [← hW5] at hr5 hblk5 hbw5
    have HW5 := Lib.hid hW5
    have HWT := Lib.hid (write_any hr5.1 (slot := 1) (c := c) (by omega) (HBY.out.kept hbw5) HL.out HC0.out HFO.out (by have := HBD.out.1; omega) (by have := HBD.out.2; omega))
    have HR5 := Lib.hid hr5
    have HB5 := Lib.hid hblk5
    have hp10 : ¬ Foot d s l v w4.heap.size := fun hk => by have := HOLD.out.lt _ hk; omega
    have HP10 := Lib.hid hp10
    clear hHC hr4 hr5 hblk5 hbw5 hb4 hW5 HSM hp10
    go_wp2_with (first | (refine wpList_val (.agg LH.toArray) (by rw [← HHa.out]; exact run_build_hdr (by with_reducible rfl) (by rfl) (by rfl) (by rfl) (by rfl)) (by rfl) ?_) | (with_reducible refine wpList_alloc_agg rfl 52 rfl #[Value.int .u64 0, .int .u64 0, .int .u32 0, .int .u32 0] zh ?_) | (with_reducible refine wpList_store_new rfl 52 (.tmp 10) (.tmp 43) rfl w4 #[Value.int .u64 0, .int .u64 0, .int .u32 0, .int .u32 0] LH.toArray rfl rfl rfl hsH' hzH hallH ?_))
    rw [← HW5.out]
    refine HWT.out.mono ?_
    rintro e w6 hd6
    have HD6 := Lib.hid hd6
    obtain ⟨rfl, _⟩ := hd6
    obtain ⟨v6, hr6⟩ := (Reach.start HR5.out.1).step HD6.out
    obtain ⟨q1, q2, q3⟩ := putsTo_bounds (1 * (n / 2)) bs ((bs.length + 63) / 64) A
    have HFL := Lib.hid (Flush_any hr6.1 (by have := HBD.out.2; omega))
    have HR6 := Lib.hid hr6
    have HQ := Lib.hid (And.intro q1 q2)
    clear HWT HD6 hr6 q1 q2 q3
    go_wp2_with fail
    refine HFL.out.mono ?_
    intro e w7 hd7
    have HD7 := Lib.hid hd7
    obtain ⟨rfl, _⟩ := hd7
    obtain ⟨v7, hr7⟩ := HR6.out.step HD7.out
    have hr7d := hr7.below ((Below.refl _ _).drew)
    have hlt5 : w4.heap.size < W5.heap.size := (Array.getElem?_eq_some_iff.1 HB5.out).1
    have hb7 : w7.drew.heap[w4.heap.size]? = some (.cells LH.toArray 52 (0, 0)) := (hr7d.2.1.block _ hlt5 HP10.out).trans HB5.out
    have hlt7 := (Array.getElem?_eq_some_iff.1 hb7).1
    have rh : w7.drew.rangeAt w4.heap.size 0 LH := by
      have := rangeAt_blk hb7 0 LH.length
      rwa [List.drop_zero, List.take_of_length_le (Nat.le_refl _)] at this
    have hp7 : ¬ Foot d s l v7 w4.heap.size := fun hk => by
      rcases hr7.foot _ hk with h | h
      · exact HP10.out h
      · omega
    have HHA : Hid (Calls Try.prog 22 #[.pointer (some ⟨d, 0, none⟩), .int .i64 1] w7.drew fun e w' => e = .returned (.int .i64 ((1 * (n / 2) : Nat) : Int)) ∧ w7.drew = w') := Lib.hid (headerAt_any hr7d.1 1 (by omega))
    have HSE := Lib.hid (HSE0.out w7.drew)
    have HKH : Hid (∀ W, Below w7.drew.heap.size w7.drew W → W.rangeAt w4.heap.size 0 LH) := Lib.hid fun W h j u hu => (h.cell (p := ⟨w4.heap.size, 0 + j, none⟩) hlt7).trans (rh j u hu)
    obtain ⟨f1, f2, f3⟩ := Fits.flushes (A := A.putsTo (1 * (n / 2)) bs ((bs.length + 63) / 64))
    have hi7 : 1 * (n / 2) < n := by have := H2.out; omega
    have HWR : Hid (∀ W, Below w7.drew.heap.size w7.drew W → Calls Try.prog 21 #[.pointer (some ⟨d, 0, none⟩), .int .i64 ((1 * (n / 2) : Nat) : Int), .agg (bys (hdrL (ep + 1) bs.length f cs)).toArray] W (Wrote d s l v7 n ((A.putsTo (1 * (n / 2)) bs ((bs.length + 63) / 64)).flushes.writes (1 * (n / 2)) (hdrL (ep + 1) bs.length f cs)) W)) := Lib.hid fun W hb =>
      Write_yes (hr7d.1.kept hb) hi7 (hdrL_len _ _ _ _) (by have := HQ.out.2; have := HBD.out.1; omega) (by have := HQ.out.1; have := HBD.out.2; omega)
    have HKP : Hid (∀ W W', Below w7.drew.heap.size w7.drew W → Did d s l v7 n ((A.putsTo (1 * (n / 2)) bs ((bs.length + 63) / 64)).flushes.writes (1 * (n / 2)) (hdrL (ep + 1) bs.length f cs)) W (.returned (.tuple #[])) W' → W'.rangeAt w4.heap.size 0 LH) := Lib.hid fun W W' h k => Did.range k (HKH.out W h) (Nat.lt_of_lt_of_le hlt7 h.size) hp7
    have HR7 := Lib.hid hr7d
    have hHe : (((ep + 1 : Nat) : Int)) = (ep : Int) + 1 := by omega
    rw [hHe, HHa.out] at HSE
    have HQ7 := Lib.hid (And.intro f1 f2)
    obtain ⟨at7, hat7⟩ : ∃ x, 1 * (n / 2) = x := ⟨_, rfl⟩
    rw [hat7] at HHA HWR HKP HSV
    clear HFL HD7 hr7 hr7d hlt5 hb7 hlt7 hp7 f1 f2 f3 hi7 HSE0 HR6
    generalize hdrL (ep + 1) bs.length f cs = HL2 at *
    generalize w4.heap.size = p10 at *
    go_wp2_with fail
    refine wp_region_held_drew (S := (fun w' => w'.rangeAt p10 0 LH)) (by kernel_rfl) ?_ (fun hHeld => ?_)
    · exact rh
    refine wpAnyH_take (i := 0) (v := ?_) (by rfl) (by kernel_rfl) (by kernel_rfl) (by kernel_rfl) (by exact fun _ _ _ h => h) (Or.inl ⟨by rfl, ?_⟩) hHeld ?_
    rotate_left 1
    · intro w' hSw
      (try dsimp only at hSw)
      go_simp
      try with_reducible rfl
    try simp only [Act.put, List.setIfInBounds_toArray, List.set_cons_zero, List.set_cons_succ, List.getElem_toArray, List.getElem_cons_zero, List.getElem_cons_succ]
    refine wpAnyH_take (i := 1) (v := ?_) (by rfl) (by kernel_rfl) (by kernel_rfl) (by kernel_rfl) (by exact fun _ _ _ h => h) (Or.inl ⟨by rfl, ?_⟩) hHeld ?_
    rotate_left 1
    · intro w' hSw
      (try dsimp only at hSw)
      go_simp
      try with_reducible rfl
    try simp only [Act.put, List.setIfInBounds_toArray, List.set_cons_zero, List.set_cons_succ, List.getElem_toArray, List.getElem_cons_zero, List.getElem_cons_succ]
    refine wpAnyH_take (i := 2) (v := ?_) (by rfl) (by kernel_rfl) (by kernel_rfl) (by kernel_rfl) (by exact fun _ _ _ h => h) (Or.inl ⟨by rfl, ?_⟩) hHeld ?_
    rotate_left 1
    · intro w' hSw
      (try dsimp only at hSw)
      go_simp
      try with_reducible rfl
    try simp only [Act.put, List.setIfInBounds_toArray, List.set_cons_zero, List.set_cons_succ, List.getElem_toArray, List.getElem_cons_zero, List.getElem_cons_succ]
    refine wpAnyH_take (i := 4) (v := .agg LH.toArray) (by rfl) (by kernel_rfl) (by kernel_rfl) (by kernel_rfl) (by exact fun _ _ _ h => h) (Or.inl ⟨by rfl, ?_⟩) hHeld ?_
    · intro w' hSw
      exact run_load_op 52 (.tmp 10) rfl p10 0 rfl LH _ hSw Try.underlying52 rfl hsH
    try simp only [Act.put, List.setIfInBounds_toArray, List.set_cons_zero, List.set_cons_succ, List.getElem_toArray, List.getElem_cons_zero, List.getElem_cons_succ]
    refine wpAnyH_ready (rs := [3]) (by kernel_rfl) (by simp) ?_
    refine AllReadyH.cons (by rfl) (fun K hK => ?_) AllReadyH.nil
    go_simp
    with_reducible refine (HHA.out).mono ?_
    rintro e w' ⟨rfl, rfl⟩
    refine hK.out _ _ ?_ (fun hHeld => ?_)
    · exact hHeld
    clear hK K
    try simp only [Act.put, List.setIfInBounds_toArray, List.set_cons_zero, List.set_cons_succ, List.getElem_toArray, List.getElem_cons_zero, List.getElem_cons_succ]
    refine wpAnyH_ready (rs := [5]) (by kernel_rfl) (by simp) ?_
    refine AllReadyH.cons (by rfl) (fun K hK => ?_) AllReadyH.nil
    go_simp
    with_reducible refine (HSE.out).mono ?_
    rintro e w8 ⟨rfl, hb8⟩
    refine hK.out _ _ ?_ (fun hHeld => ?_)
    · exact HKH.out _ hb8
    clear hK K
    try simp only [Act.put, List.setIfInBounds_toArray, List.set_cons_zero, List.set_cons_succ, List.getElem_toArray, List.getElem_cons_zero, List.getElem_cons_succ]
    refine wpAnyH_ready (rs := [6]) (by kernel_rfl) (by simp) ?_
    refine AllReadyH.cons (by rfl) (fun K hK => ?_) AllReadyH.nil
    go_simp
    with_reducible refine (HWR.out _ hb8).mono ?_
    rintro e w9 ⟨rfl, hd9⟩
    have hr9 := HKP.out _ _ hb8 hd9
    refine hK.out _ _ ?_ (fun hHeld => ?_)
    · exact hr9
    clear hK K
    try simp only [Act.put, List.setIfInBounds_toArray, List.set_cons_zero, List.set_cons_succ, List.getElem_toArray, List.getElem_cons_zero, List.getElem_cons_succ]
    refine wpAnyH_done (by kernel_rfl) ?_ _
    clear hHeld
    have hr8 := HR7.out.below hb8
    obtain ⟨v9, hr9⟩ := hr8.step hd9
    have HR9 := Lib.hid hr9
    have HFL := Lib.hid (Flush_any hr9.1 (by
      have h1 := HQ.out.1
      have h2 := HBD.out.2
      have h3 := HQ7.out.1
      have h4 := writes_ops at7 HL2 ((A.putsTo at7 bs ((bs.length + 63) / 64)).flushes)
      rw [hat7] at h1 h3
      omega))
    clear hb8 hd9 hr8 hr9 HKP HWR HHA HSE HKH
    go_wp2_with fail
    refine HFL.out.mono ?_
    intro e w10 hd10
    have HD10 := Lib.hid hd10
    obtain ⟨rfl, _⟩ := hd10
    obtain ⟨v10, hr10⟩ := HR9.out.step HD10.out
    have HEND : Hid (Wrote d s l v n AS w (.returned (.int .i64 0)) w10) := Lib.hid (by
      rw [HSV.out]
      exact ⟨rfl, (HR5.out.trans hr10).did⟩)
    clear HFL HD10 hr10
    go_wp2_with fail
    go_ret
    exact HEND.out
end
end Go.Proofs.Ytienhidbgohhcaa
