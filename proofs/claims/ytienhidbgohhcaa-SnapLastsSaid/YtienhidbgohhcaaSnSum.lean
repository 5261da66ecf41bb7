/-
  Layer 6: the CRC-32: its table, and the sum of bytes.
-/
import Derived.Test.YtienhidbgohhcaaDkNew
import Derived.OpenShut
set_option linter.unusedVariables false
set_option linter.unusedSimpArgs false
namespace Go.Proofs.Ytienhidbgohhcaa
open Go.RowKit

/-- One bit of a byte's effect. -/
def crcStep (s : Int) : Int := bits .xor .u32 (s / 2) (3988292384 * bits .and .u32 s 1 % 4294967296)
def crcEff : Nat → Int → Int
  | 0, s => s
  | k + 1, s => crcStep (crcEff k s)
def u4s (l : List Int) : List Value := l.map (Value.int .u32)
theorem u4s_len (l : List Int) : (u4s l).length = l.length := by simp [u4s]
theorem u4s_one (l : List Int) : ∀ v ∈ u4s l, v.oneCell' = true := by
  intro v hv
  obtain ⟨x, _, rfl⟩ := List.mem_map.1 hv
  rfl
theorem size_table : (Try.prog.info? 61).map (·.size) = some 256 := by kernel_rfl
theorem zero_table : (Try.prog.info? 61).map (fun i => (i.zero, i.size)) = some (some (.agg (u4s (List.replicate 256 0)).toArray), 256) := by kernel_rfl
def tableTo (k : Nat) : List Int := (List.range k).map (fun (c : Nat) => crcEff 8 (c : Int)) ++ List.replicate (256 - k) 0
theorem tableTo_len {k : Nat} (h : k ≤ 256) : (tableTo k).length = 256 := by simp [tableTo]; omega
theorem tableTo_set {k : Nat} (h : k < 256) : (tableTo k).set k (crcEff 8 (k : Int)) = tableTo (k + 1) := by
  unfold tableTo
  rw [List.range_succ, List.map_append, List.append_assoc]
  have e : List.replicate (256 - k) (0 : Int) = 0 :: List.replicate (256 - (k + 1)) 0 := by
    rw [← List.replicate_succ]
    congr 1
    omega
  rw [e]
  simp [List.set_append]
theorem tableTo_at {k : Nat} (h : k < 256) : (u4s (tableTo k)).toArray[k]? = some (.int .u32 0) := by
  have e : List.replicate (256 - k) (0 : Int) = 0 :: List.replicate (256 - (k + 1)) 0 := by
    rw [← List.replicate_succ]
    congr 1
    omega
  simp only [u4s, tableTo, e, List.map_append, List.getElem?_toArray]
  rw [List.getElem?_append_right (by simp)]
  simp
set_option maxRecDepth 100000 in
set_option maxHeartbeats 1000000 in
theorem byteEffects_any (w : World) : Calls Try.prog 27 #[] w fun e w' => e = .returned (.agg (u4s (tableTo 256)).toArray) ∧ Below w.heap.size w w' := by
  have zs := fun w => (zero_of_info zero_table).1 w
  obtain ⟨Z, hZ⟩ : ∃ Z, u4s (List.replicate 256 0) = Z := ⟨_, rfl⟩
  rw [hZ] at zs
  have HZ := Lib.hid hZ
  clear hZ
  obtain ⟨W, hW⟩ : ∃ W, W = w.alloc (.cells Z.toArray 61) := ⟨_, rfl⟩
  have hWs : W.heap.size = w.heap.size + 1 := by rw [hW]; simp
  have HW := Lib.hid hW
  have H0 : Hid (W.alloc (.cells Z.toArray 61) = W.alloc (.cells (u4s (tableTo 0)).toArray 61)) := Lib.hid (by rw [← HZ.out]; rfl)
  clear hW
  go_enter Try.func27, Try.ntmps27
  go_wp2_with (with_reducible refine wpList_alloc_agg rfl 61 rfl Z.toArray zs ?_)
  rw [← HW.out]
  go_loopw [4] (fun (i : Value) (wr : World) => ∃ k : Nat, k ≤ 256 ∧ i = .int .i64 (k : Int) ∧ Hid (wr = W.alloc (.cells (u4s (tableTo k)).toArray 61))) (fun i _ => 256 - (intOf i).toNat)
  case atStart => exact ⟨0, Nat.zero_le _, rfl, Lib.hid H0.out⟩
  case round =>
    obtain ⟨k, hk, rfl, HR⟩ := hrel
    by_cases hlt : k < 256
    · have hk0 : (0 : Int) ≤ (k : Int) := by omega
      have hk1 : (k : Int) < 256 := by omega
      have hkw : IntKind.u32.wrap (k : Int) = (k : Int) := IntWalk.u32_in _ (by omega)
      clear zs HZ H0 HW
      have HLT := Lib.hid hlt
      clear hk hlt
      go_wp2
      go_loop [9, 3] (fun (j s : Value) => ∃ m : Nat, m ≤ 8 ∧ j = .int .i64 (m : Int) ∧ s = .int .u32 (crcEff m (k : Int))) (fun j _ => 8 - (intOf j).toNat)
      case atStart => exact ⟨0, by omega, rfl, rfl⟩
      case round =>
        obtain ⟨m, hm, rfl, rfl⟩ := hrel
        by_cases hm8 : m < 8
        · have hm0 : (m : Int) < 8 := by omega
          have hstep : crcEff (m + 1) (k : Int) = crcStep (crcEff m (k : Int)) := rfl
          unfold crcStep at hstep
          have HS := Lib.hid hstep
          clear hstep
          generalize crcEff m (k : Int) = s at *
          go_wp2
          go_roundw
          case rel => exact ⟨m + 1, by omega, by go_num, by rw [HS.out]⟩
          case measure => simp [intOf]; omega
        · obtain rfl : m = 8 := by omega
          clear hm8 hm
          have hcell : wr.cell? ⟨w.heap.size + 1, k, none⟩ = some (.int .u32 0) := by
            rw [HR.out, ← hWs, World.cell?_alloc_new]
            exact tableTo_at HLT.out
          have hfr : wr.frozen? ⟨w.heap.size + 1, k, none⟩ = false := by
            rw [HR.out, ← hWs, World.frozen?_alloc_new]
          have hst : Hid (wr.setCell ⟨w.heap.size + 1, k, none⟩ (.int .u32 (crcEff 8 (k : Int))) = W.alloc (.cells (u4s (tableTo (k + 1))).toArray 61)) := Lib.hid (by
            rw [HR.out, ← hWs, World.setCell_alloc_new, ← tableTo_set HLT.out]
            simp [u4s, List.map_set])
          clear hWs
          generalize crcEff 8 (k : Int) = s at *
          go_wp2
          go_roundw
          case rel => exact ⟨k + 1, by have := HLT.out; omega, by go_num, hst⟩
          case measure => simp [intOf]; have := HLT.out; omega
    · obtain rfl : k = 256 := by omega
      have hl : (u4s (tableTo 256)).length = 256 := by rw [u4s_len, tableTo_len (Nat.le_refl _)]
      have h1 := u4s_one (tableTo 256)
      obtain ⟨T, hT⟩ : ∃ T, u4s (tableTo 256) = T := ⟨_, rfl⟩
      have hr := HR.out
      rw [hT] at hr hl h1
      subst hr
      have HTT := Lib.hid hT
      clear hT
      have r1 : (W.alloc (.cells T.toArray 61)).rangeAt (w.heap.size + 1) 0 T := by
        rw [← hWs]
        intro j u hu
        rw [Nat.zero_add, World.cell?_alloc_new]
        simpa using hu
      have hth : (W.alloc (.cells T.toArray 61)).there w.heap.size 0 T.toArray.size := by
        refine World.there_alloc ?_ _
        rw [HW.out]
        refine there_blk (heap_alloc_last w _) 0 _ ?_
        have := congrArg List.length HZ.out
        simp [u4s_len] at this
        simp
        omega
      have hsz : (Try.prog.info? 61).map (·.size) = some T.length := by rw [hl]; exact size_table
      have hall : T.toArray.all (·.oneCell') = true := all_oneCell_toArray h1
      have hld := run_loadVar_mid (P := Try.prog) ((W.alloc (.cells T.toArray 61)).setCells w.heap.size 0 T) w.heap.size 0 61 T _ (World.rangeAt_setCells_same _ _ _ _ (by simpa using hth)) Try.underlying61 rfl hsz
      have hb : Below w.heap.size w ((W.alloc (.cells T.toArray 61)).setCells w.heap.size 0 T) := by
        have hB1 : Below w.heap.size w (W.alloc (.cells T.toArray 61)) := by
          rw [HW.out]
          exact ((Below.refl _ _).alloc (Nat.le_refl _) _).alloc (by simp) _
        exact hB1.trans ((chg_setCells (S := fun j => j = w.heap.size) rfl _ _ _).below (fun k hk => by omega) hB1.size)
      have HB := Lib.hid hb
      have HLD := Lib.hid hld
      clear hk hlt H0 HR hb hld zs HZ h1 hWs
      go_wp2_with (first | (with_reducible refine wpList_load_mid rfl 61 (.tmp 1) rfl (w.heap.size + 1) 0 rfl T _ r1 Try.underlying61 rfl hsz ?_) | (with_reducible refine wpList_store_mid rfl 61 (.tmp 0) (.tmp 22) rfl w.heap.size 0 T.toArray rfl rfl hth (by rw [List.size_toArray]; exact hsz) hall ?_))
      refine bodyPost_ret (v := .agg T.toArray) ?_ rfl ⟨by rw [HTT.out], HB.out⟩
      have := HLD.out
      simp [results, Try.results27, asAddr, Act.put, this]
theorem xor_byte (a b : Int) : ∃ v : Nat, bits .xor .u8 a b = (v : Int) ∧ v < 256 := by
  have h := wf_bits .xor .u8 a b
  simp [Lit.wf, IntKind.min, IntKind.max, IntKind.signed, IntKind.bits] at h
  exact ⟨(bits .xor .u8 a b).toNat, by omega, by omega⟩
/-- A byte more. -/
def crcByte (s c : Int) : Int := bits .xor .u32 (s / 256) ((tableTo 256).getD (bits .xor .u8 (s % 256) c).toNat 0)
/-- The sum of bytes. -/
def crcOf (bs : List Int) : Int := bits .xor .u32 (bs.foldl crcByte 4294967295) 4294967295
/-- Bytes in memory. -/
def BytesAt (w : World) (a : Option Addr) (bs : List Int) : Prop := bs = [] ∨ ∃ g off, a = some ⟨g, off, none⟩ ∧ w.rangeAt g off (bys bs)
set_option maxRecDepth 100000 in
set_option maxHeartbeats 1000000 in
theorem Sum_any (w : World) (a : Option Addr) (bs : List Int) (c : Nat) (h : BytesAt w a bs) (hl : bs.length ≤ 100000000) :
    Calls Try.prog 13 #[.slice a bs.length c] w fun e w' => e = .returned (.int .u32 (crcOf bs)) ∧ Below w.heap.size w w' := by
  have HB := Lib.hid (byteEffects_any w)
  have zs := fun w => (zero_of_info zero_table).1 w
  obtain ⟨Z, hZ⟩ : ∃ Z, u4s (List.replicate 256 0) = Z := ⟨_, rfl⟩
  rw [hZ] at zs
  have hZl : Z.length = 256 := by rw [← hZ]; simp [u4s_len]
  have HZ := Lib.hid hZl
  have HH := Lib.hid h
  clear hZ h hZl
  go_enter Try.func13, Try.ntmps13
  go_wp2_with fail
  refine HB.out.mono ?_
  rintro e w1 ⟨rfl, hb1⟩
  clear HB
  have hl2 : (u4s (tableTo 256)).length = 256 := by rw [u4s_len, tableTo_len (Nat.le_refl _)]
  obtain ⟨T, hT⟩ : ∃ T, u4s (tableTo 256) = T := ⟨_, rfl⟩
  have h1 := u4s_one (tableTo 256)
  rw [hT] at h1 hl2 ⊢
  have HTL := Lib.hid hl2
  have HT := Lib.hid hT
  have hsz : (Try.prog.info? 61).map (·.size) = some T.toArray.size := by rw [List.size_toArray, hl2]; exact size_table
  have hall : T.toArray.all (·.oneCell') = true := all_oneCell_toArray h1
  have HB1 := Lib.hid hb1
  clear hT h1 hl2 hb1
  go_wp2_with (first | (with_reducible refine wpList_alloc_agg rfl 61 rfl Z.toArray zs ?_) | (with_reducible refine wpList_store_new rfl 61 (.tmp 3) (.tmp 7) rfl w1 Z.toArray T.toArray rfl rfl rfl hsz (by rw [List.size_toArray, List.size_toArray, HZ.out, HTL.out]) hall ?_))
  have HW2 : Hid (Below w.heap.size w (w1.alloc (.cells T.toArray 61))) := Lib.hid (HB1.out.alloc HB1.out.size _)
  have HC : Hid (∀ k, k < bs.length → ∃ g off, a = some ⟨g, off, none⟩ ∧ (w1.alloc (.cells T.toArray 61)).cell? ⟨g, off + k, none⟩ = some (.int .u8 (bs.getD k 0))) := Lib.hid fun k hk => by
    rcases HH.out with e | ⟨g, off, e, h⟩
    · subst e; simp at hk
    · refine ⟨g, off, e, ?_⟩
      have hc := h k (.int .u8 (bs.getD k 0)) (by simp [bys, b8, hk])
      rw [HW2.out.cell (p := ⟨g, off + k, none⟩) (World.block_lt_of_cell? _ _ hc)]
      exact hc
  have HTC : Hid (∀ k : Nat, k < 256 → (w1.alloc (.cells T.toArray 61)).cell? ⟨w1.heap.size, k, none⟩ = some (.int .u32 ((tableTo 256).getD k 0))) := Lib.hid fun k hk => by
    rw [World.cell?_alloc_new, ← HT.out]
    have : k < (tableTo 256).length := by rw [tableTo_len (Nat.le_refl _)]; exact hk
    simp [u4s, this]
  generalize w1.alloc (.cells T.toArray 61) = W at *
  go_loop [10, 4] (fun (i s : Value) => ∃ k : Nat, k ≤ bs.length ∧ i = .int .i64 (k : Int) ∧ s = .int .u32 ((bs.take k).foldl crcByte 4294967295)) (fun i _ => bs.length - (intOf i).toNat)
  case atStart => exact ⟨0, Nat.zero_le _, rfl, rfl⟩
  case round =>
    obtain ⟨k, hk, rfl, rfl⟩ := hrel
    by_cases hlt : k < bs.length
    · have hk0 : (0 : Int) ≤ (k : Int) := by omega
      have hk1 : (k : Int) < (bs.length : Int) := by omega
      obtain ⟨g, off, rfl, hc⟩ := HC.out k hlt
      have hnext : (bs.take (k + 1)).foldl crcByte 4294967295 = crcByte ((bs.take k).foldl crcByte 4294967295) (bs.getD k 0) := by
        rw [List.take_succ_eq_append_getElem hlt, List.foldl_append]
        simp [hlt]
      generalize (bs.take k).foldl crcByte 4294967295 = s at *
      generalize bs.getD k 0 = x at *
      obtain ⟨v, hv, hv1⟩ := xor_byte (s % 256) x
      have hcell := HTC.out v hv1
      have hcr : crcByte s x = bits .xor .u32 (s / 256) ((tableTo 256).getD v 0) := by
        unfold crcByte
        rw [hv]
        rfl
      rw [hcr] at hnext
      clear hcr
      generalize (tableTo 256).getD v 0 = y at *
      have HN := Lib.hid hnext
      clear hnext
      have hv2 : (v : Int) < 256 := by omega
      have hk2 : (k : Int) + 1 ≤ 100000001 := by omega
      have HLT := Lib.hid hlt
      have HLK := Lib.hid hl
      clear hlt hk hl
      generalize bs.length = L at *
      go_wp2
      go_roundw
      case rel => exact ⟨k + 1, by have := HLT.out; omega, by go_num, by rw [HN.out]⟩
      case measure => simp [intOf]; have := HLT.out; omega
    · obtain rfl : k = bs.length := by omega
      have hcr : crcOf bs = bits .xor .u32 (bs.foldl crcByte 4294967295) 4294967295 := rfl
      rw [List.take_length]
      have HCR := Lib.hid hcr
      clear hcr hlt hk HC hl
      generalize bs.foldl crcByte 4294967295 = s at *
      generalize bs.length = L at *
      go_wp2
      go_ret
      exact ⟨by rw [HCR.out]; rfl, HW2.out⟩
end Go.Proofs.Ytienhidbgohhcaa
