/-
  Layer 6: both slots; the newest, the greatest.
-/
import Derived.Test.YtienhidbgohhcaaSnSlot
set_option linter.unusedVariables false
set_option linter.unusedSimpArgs false
namespace Go.Proofs.Ytienhidbgohhcaa
open Go.RowKit

/-- A slot as cells. -/
def shotC (s : Shot) (a : Option Addr) (c : Nat) : List Value := [.int .i64 s.e, .int .u32 s.f, .slice a s.b.length c, .bool s.q]
def zshot : List Value := [.int .i64 0, .int .u32 0, .slice none 0 0, .bool false]
def ShotAt (w : World) (s : Shot) (a : Option Addr) (c : Nat) : Prop := BytesAt w a s.b ∧ s.b.length ≤ c
theorem BytesAt.kept {w w' : World} {a : Option Addr} {bs : List Int} (h : BytesAt w a bs) (hb : Below w.heap.size w w') : BytesAt w' a bs := by
  rcases h with e | ⟨g, off, e, h⟩
  · exact .inl e
  · exact .inr ⟨g, off, e, fun j u hu => (hb.cell (p := ⟨g, off + j, none⟩) (World.block_lt_of_cell? _ _ (h j u hu))).trans (h j u hu)⟩
theorem ShotAt.kept {w w' : World} {s : Shot} {a : Option Addr} {c : Nat} (h : ShotAt w s a c) (hb : Below w.heap.size w w') : ShotAt w' s a c := ⟨h.1.kept hb, h.2⟩
theorem size_shots : (Try.prog.info? 46).map (·.size) = some 8 := by kernel_rfl
theorem zero_shots : (Try.prog.info? 46).map (fun i => (i.zero, i.size)) = some (some (.agg (zshot ++ zshot).toArray), 8) := by kernel_rfl
theorem size_shot : (Try.prog.info? 45).map (·.size) = some 4 := by kernel_rfl
theorem zero_shot : (Try.prog.info? 45).map (fun i => (i.zero, i.size)) = some (some (.agg zshot.toArray), 4) := by kernel_rfl
/-- Both slots, handed back. -/
def AllIs (s0 s1 : Shot) (w : World) (en : Ending) (w' : World) : Prop :=
  ∃ a0 c0 a1 c1, en = .returned (.agg (shotC s0 a0 c0 ++ shotC s1 a1 c1).toArray) ∧ ShotAt w' s0 a0 c0 ∧ ShotAt w' s1 a1 c1 ∧ Below w.heap.size w w' ∧ New w.heap.size a0 s0.b ∧ New w.heap.size a1 s1.b
/-- Behind so many rounds. -/
def AllSt (w : World) (s0 s1 : Shot) (k : Nat) (W : World) : Prop :=
  Below w.heap.size w W ∧ W.heap[w.heap.size]? = some (.cells (zshot ++ zshot).toArray 46 (0, 0)) ∧
    ∃ C, W.heap[w.heap.size + 1]? = some (.cells (C : List Value).toArray 46 (0, 0)) ∧
      (k = 0 ∧ C = zshot ++ zshot ∨ k = 1 ∧ (∃ a0 c0, C = shotC s0 a0 c0 ++ zshot ∧ ShotAt W s0 a0 c0 ∧ New w.heap.size a0 s0.b) ∨ k = 2 ∧ (∃ a0 c0 a1 c1, C = shotC s0 a0 c0 ++ shotC s1 a1 c1 ∧ ShotAt W s0 a0 c0 ∧ ShotAt W s1 a1 c1 ∧ New w.heap.size a0 s0.b ∧ New w.heap.size a1 s1.b))
theorem BytesAt.chg {w w' : World} {S : Nat → Prop} {a : Option Addr} {bs : List Int} (h : BytesAt w a bs) (hc : Chg S w w') (hS : ∀ g off, a = some ⟨g, off, none⟩ → bs ≠ [] → ¬ S g) : BytesAt w' a bs := by
  rcases h with e | ⟨g, off, e, h⟩
  · exact .inl e
  · by_cases hb : bs = []
    · exact .inl hb
    · exact .inr ⟨g, off, e, fun j u hu => (World.cell?_of_block (hc.block g (World.block_lt_of_cell? _ _ (h j u hu)) (hS g off e hb))).trans (h j u hu)⟩
/-- No byte among them. -/
def No8 (C : List Value) : Prop := ∀ (x : Nat) (n : Int), C[x]? ≠ some (Value.int .u8 n)
/-- Bytes don't lie among a slot's cells. -/
theorem BytesAt.apart {w : World} {a : Option Addr} {bs : List Int} {b : Nat} {C : List Value} {t : TypeId} {g off : Nat} (h : BytesAt w a bs) (hb : w.heap[b]? = some (.cells C.toArray t (0, 0))) (hC : No8 C) (ha : a = some ⟨g, off, none⟩) (hne : bs ≠ []) : g ≠ b := by
  rintro rfl
  rcases h with e | ⟨g', off', e, h⟩
  · exact hne e
  · rw [ha] at e
    cases e
    cases bs with
    | nil => exact hne rfl
    | cons x r =>
      have := h 0 (b8 x) rfl
      simp only [World.cell?, hb] at this
      exact hC (off + 0) x (by simpa [b8] using this)
theorem shotC_no8 {s s' : Shot} {a a' : Option Addr} {c c' : Nat} : No8 (shotC s a c ++ shotC s' a' c') := by
  intro x n h
  have := List.mem_of_getElem? h
  simp [shotC] at this
theorem shotC_no8z {s : Shot} {a : Option Addr} {c : Nat} : No8 (shotC s a c ++ zshot) := by
  intro x n h
  have := List.mem_of_getElem? h
  simp [shotC, zshot] at this
theorem zshot_no8 : No8 (zshot ++ zshot) := by
  intro x n h
  have := List.mem_of_getElem? h
  simp [zshot] at this
section
variable {w : World} {d s l : Nat} {v : Value} {n : Nat} {A : Dk.DV}
set_option maxRecDepth 100000 in
set_option maxHeartbeats 4000000 in
theorem shots_any (h : DkAt w d s l v n A) (h2 : 2 ≤ n) : Calls Try.prog 16 #[.pointer (some ⟨d, 0, none⟩)] w (AllIs (slotOf A.seen n 0) (slotOf A.seen n 1) w) := by
  have zs := fun w => (zero_of_info zero_shots).1 w
  obtain ⟨Z, hZ⟩ : ∃ Z, Z = zshot ++ zshot := ⟨_, rfl⟩
  rw [← hZ] at zs
  obtain ⟨W0, hW0⟩ : ∃ W0, W0 = (w.alloc (.cells Z.toArray 46)).alloc (.cells Z.toArray 46) := ⟨_, rfl⟩
  have h0 : Hid (AllSt w (slotOf A.seen n 0) (slotOf A.seen n 1) 0 W0) := Lib.hid (by
    refine ⟨?_, ?_, Z, ?_, .inl ⟨rfl, hZ⟩⟩
    · rw [hW0]; exact ((Below.refl _ _).alloc (Nat.le_refl _) _).alloc (by simp) _
    · rw [hW0, Below.heap_alloc _ _ _ (by simp), hZ]
      exact heap_alloc_last w _
    · rw [hW0]
      have := heap_alloc_last (w.alloc (.cells Z.toArray 46)) (.cells Z.toArray 46)
      simpa using this)
  have HS0 := Lib.hid (fun W (hb : Below w.heap.size w W) => Slot_any (h.kept hb) (i := 0) (by omega) h2)
  have HS1 := Lib.hid (fun W (hb : Below w.heap.size w W) => Slot_any (h.kept hb) (i := 1) (by omega) h2)
  generalize slotOf A.seen n 0 = s0 at *
  generalize slotOf A.seen n 1 = s1 at *
  have HW0 := Lib.hid hW0
  have HZ := Lib.hid hZ
  clear h h2 hW0 hZ
  go_enter Try.func16, Try.ntmps16
  go_wp2_with (with_reducible refine wpList_alloc_agg rfl 46 rfl Z.toArray zs ?_)
  rw [← HW0.out]
  go_loopw [6] (fun (i : Value) (wr : World) => ∃ k : Nat, k ≤ 2 ∧ i = .int .i64 (k : Int) ∧ Hid (AllSt w s0 s1 k wr)) (fun i _ => 2 - (intOf i).toNat)
  case atStart => exact ⟨0, by omega, rfl, h0⟩
  case round =>
    obtain ⟨k, hk, rfl, HR⟩ := hrel
    obtain ⟨hb, hz0, C, hC, hcase⟩ := HR.out
    rcases hcase with ⟨rfl, rfl⟩ | ⟨rfl, a0, c0, rfl, hs0, hn0⟩ | ⟨rfl, a0, c0, a1, c1, rfl, hs0, hs1, hn0, hn1⟩
    · have HSL := Lib.hid (HS0.out wr hb)
      clear HS0 HS1 h0 HR
      go_wp2_with fail
      refine HSL.out.mono ?_
      rintro e w2 ⟨a, c, rfl, hB, hlc, hb2, hnw⟩
      have hC2 : w2.heap[w.heap.size + 1]? = some (.cells (zshot ++ zshot).toArray 46 (0, 0)) := (hb2.block _ (Array.getElem?_eq_some_iff.1 hC).1).trans hC
      have q : Chg (fun j => j = w.heap.size + 1) w2 (w2.setCells (w.heap.size + 1) 0 (shotC s0 a c)) := chg_setCells (S := fun j => j = w.heap.size + 1) rfl _ _ _
      have hnx : Hid (AllSt w s0 s1 1 (w2.setCells (w.heap.size + 1) 0 (shotC s0 a c))) := Lib.hid (by
        have hbw : Below w.heap.size w w2 := hb.trans (hb2.mono hb.size)
        refine ⟨hbw.trans (q.below (fun k hk => by omega) hbw.size), (q.block _ (by have := (Array.getElem?_eq_some_iff.1 hC2).1; omega) (by omega)).trans ((hb2.block _ (Array.getElem?_eq_some_iff.1 hz0).1).trans hz0), shotC s0 a c ++ zshot, ?_, .inr (.inl ⟨rfl, a, c, rfl, ⟨hB.chg q (fun g off e hne hg => hB.apart hC2 zshot_no8 e hne hg), hlc⟩, hnw.mono hb.size⟩)⟩
        exact heap_setCells_same _ _ _ _ _ _ hC2 (by simp [shotC, zshot]))
      have hc : ∀ i, i < 4 → ∃ u, w2.cell? ⟨w.heap.size + 1, i, none⟩ = some u := fun i hi => cell_blk hC2 (by simp [zshot]; omega)
      obtain ⟨u0, g0⟩ := hc 0 (by omega)
      obtain ⟨u1, g1⟩ := hc 1 (by omega)
      obtain ⟨u2, g2⟩ := hc 2 (by omega)
      obtain ⟨u3, g3⟩ := hc 3 (by omega)
      have hfz : ∀ i, w2.frozen? ⟨w.heap.size + 1, i, none⟩ = false := fun i => by simp [World.frozen?, hC2]
      clear hb hz0 hC HSL hB hlc hb2 hC2 q hc hnw
      go_wp2_with fail
      go_roundw
      case rel => exact ⟨1, by omega, rfl, hnx⟩
      case measure => simp [intOf]
    · have HSL := Lib.hid (HS1.out wr hb)
      clear HS0 HS1 h0 HR
      go_wp2_with fail
      refine HSL.out.mono ?_
      rintro e w2 ⟨a, c, rfl, hB, hlc, hb2, hnw⟩
      have hC2 : w2.heap[w.heap.size + 1]? = some (.cells (shotC s0 a0 c0 ++ zshot).toArray 46 (0, 0)) := (hb2.block _ (Array.getElem?_eq_some_iff.1 hC).1).trans hC
      have q : Chg (fun j => j = w.heap.size + 1) w2 (w2.setCells (w.heap.size + 1) 4 (shotC s1 a c)) := chg_setCells (S := fun j => j = w.heap.size + 1) rfl _ _ _
      have hs2 := hs0.kept hb2
      have hnx : Hid (AllSt w s0 s1 2 (w2.setCells (w.heap.size + 1) 4 (shotC s1 a c))) := Lib.hid (by
        have hbw : Below w.heap.size w w2 := hb.trans (hb2.mono hb.size)
        refine ⟨hbw.trans (q.below (fun k hk => by omega) hbw.size), (q.block _ (by have := (Array.getElem?_eq_some_iff.1 hC2).1; omega) (by omega)).trans ((hb2.block _ (Array.getElem?_eq_some_iff.1 hz0).1).trans hz0), shotC s0 a0 c0 ++ shotC s1 a c, ?_,
          .inr (.inr ⟨rfl, a0, c0, a, c, rfl, ⟨hs2.1.chg q (fun g off e hne hg => hs2.1.apart hC2 shotC_no8z e hne hg), hs2.2⟩, ⟨hB.chg q (fun g off e hne hg => hB.apart hC2 shotC_no8z e hne hg), hlc⟩, hn0, hnw.mono hb.size⟩)⟩
        exact heap_setCells_same _ _ _ _ _ _ hC2 (by simp [shotC, zshot]))
      have hc : ∀ i, i < 8 → ∃ u, w2.cell? ⟨w.heap.size + 1, i, none⟩ = some u := fun i hi => cell_blk hC2 (by simp [shotC, zshot]; omega)
      obtain ⟨u0, g0⟩ := hc 4 (by omega)
      obtain ⟨u1, g1⟩ := hc 5 (by omega)
      obtain ⟨u2, g2⟩ := hc 6 (by omega)
      obtain ⟨u3, g3⟩ := hc 7 (by omega)
      have hfz : ∀ i, w2.frozen? ⟨w.heap.size + 1, i, none⟩ = false := fun i => by simp [World.frozen?, hC2]
      clear hb hz0 hC HSL hB hlc hb2 hC2 q hc hs0 hs2 hnw hn0
      go_wp2_with fail
      go_roundw
      case rel => exact ⟨2, by omega, rfl, hnx⟩
      case measure => simp [intOf]
    · have hl8 : (shotC s0 a0 c0 ++ shotC s1 a1 c1).length = 8 := rfl
      have h1 : ∀ v ∈ shotC s0 a0 c0 ++ shotC s1 a1 c1, v.oneCell' = true := by
        intro v hv
        simp [shotC] at hv
        rcases hv with rfl | rfl | rfl | rfl | rfl | rfl | rfl | rfl <;> rfl
      obtain ⟨T, hT⟩ : ∃ T, shotC s0 a0 c0 ++ shotC s1 a1 c1 = T := ⟨_, rfl⟩
      rw [hT] at hC hl8 h1
      have r1 : wr.rangeAt (w.heap.size + 1) 0 T := by
        have := rangeAt_blk hC 0 8
        rwa [List.drop_zero, List.take_of_length_le (by omega)] at this
      have hth : wr.there w.heap.size 0 T.toArray.size := there_blk hz0 0 _ (by rw [List.size_toArray, hl8]; decide)
      have hsz : (Try.prog.info? 46).map (·.size) = some T.length := by rw [hl8]; exact size_shots
      have hall : T.toArray.all (·.oneCell') = true := all_oneCell_toArray h1
      have q : Chg (fun j => j = w.heap.size) wr (wr.setCells w.heap.size 0 T) := chg_setCells (S := fun j => j = w.heap.size) rfl _ _ _
      have HLD := Lib.hid (run_loadVar_mid (P := Try.prog) (wr.setCells w.heap.size 0 T) w.heap.size 0 46 T _ (World.rangeAt_setCells_same _ _ _ _ (by simpa using hth)) Try.underlying46 rfl hsz)
      have hex : Hid (AllIs s0 s1 w (.returned (.agg T.toArray)) (wr.setCells w.heap.size 0 T)) := Lib.hid (by
        refine ⟨a0, c0, a1, c1, by rw [hT], ⟨hs0.1.chg q (fun g off e hne hg => hs0.1.apart hz0 zshot_no8 e hne hg), hs0.2⟩, ⟨hs1.1.chg q (fun g off e hne hg => hs1.1.apart hz0 zshot_no8 e hne hg), hs1.2⟩, hb.trans (q.below (fun k hk => by omega) hb.size), hn0, hn1⟩)
      clear HS0 HS1 h0 HR hb hz0 hC hT h1 hs0 hs1 hn0 hn1 q zs HZ HW0 hl8
      go_wp2_with (first | (with_reducible refine wpList_load_mid rfl 46 (.tmp 3) rfl (w.heap.size + 1) 0 rfl T _ r1 Try.underlying46 rfl hsz ?_) | (with_reducible refine wpList_store_mid rfl 46 (.tmp 2) (.tmp 32) rfl w.heap.size 0 T.toArray rfl rfl hth (by rw [List.size_toArray]; exact hsz) hall ?_))
      refine bodyPost_ret (v := .agg T.toArray) ?_ rfl hex.out
      have := HLD.out
      simp [results, Try.results16, asAddr, Act.put, this]
end
end Go.Proofs.Ytienhidbgohhcaa
