/-
  Layer 6: what a slot has.
-/
import Derived.Test.YtienhidbgohhcaaSnRead
import Derived.Deep.QuietTactic
import Derived.BigQuiet
set_option linter.unusedVariables false
set_option linter.unusedSimpArgs false
namespace Go.Proofs.Ytienhidbgohhcaa
open Go.RowKit

/-- What a slot has. -/
structure Shot where
  e : Int
  f : Int
  b : List Int
  q : Bool
def Shot.no : Shot := ⟨0, 0, [], false⟩
/-- The slot's header, and its bytes. -/
def hdrOf (R : List Int) (n i : Nat) : List Int := Dk.sec R (i * (n / 2))
def slotOf (R : List Int) (n i : Nat) : Shot :=
  if isHdr (hdrOf R n i) = true then
    if hZ (hdrOf R n i) ≤ ((64 * (n / 2 - 1) : Nat) : Int) then
      if crcOf (dataOf R (i * (n / 2)) (hZ (hdrOf R n i)).toNat) = hS (hdrOf R n i) then ⟨hE (hdrOf R n i), hF (hdrOf R n i), dataOf R (i * (n / 2)) (hZ (hdrOf R n i)).toNat, true⟩ else Shot.no
    else Shot.no
  else Shot.no
theorem crcOf_range (bs : List Int) : 0 ≤ crcOf bs ∧ crcOf bs ≤ 4294967295 := by
  have h := wf_bits .xor .u32 (bs.foldl crcByte 4294967295) 4294967295
  simp [Lit.wf, IntKind.min, IntKind.max, IntKind.signed, IntKind.bits] at h
  unfold crcOf
  omega
/-- Bytes that lie in new memory. -/
def New (B : Nat) (a : Option Addr) (bs : List Int) : Prop := bs ≠ [] → ∀ x, a = some x → B ≤ x.block
theorem New.mono {B B' : Nat} {a : Option Addr} {bs : List Int} (h : New B a bs) (hb : B' ≤ B) : New B' a bs := fun hn x hx => Nat.le_trans hb (h hn x hx)
/-- What Slot answers. -/
def Slots (s : Shot) (w : World) (en : Ending) (w' : World) : Prop :=
  ∃ a c, en = .returned (.tuple #[.int .i64 s.e, .int .u32 s.f, .slice a s.b.length c, .bool s.q]) ∧ BytesAt w' a s.b ∧ s.b.length ≤ c ∧ Below w.heap.size w w' ∧ New w.heap.size a s.b
theorem Slots.no' {w w' : World} (h : Below w.heap.size w w') : Slots Shot.no w (.returned (.tuple #[.int .i64 0, .int .u32 0, .slice none 0 0, .bool false])) w' := ⟨none, 0, rfl, .inl rfl, Nat.le_refl _, h, fun hn => absurd rfl hn⟩
section
variable {w : World} {d s l : Nat} {v : Value} {n : Nat} {A : Dk.DV}
/-- The header's four cells. -/
def hcells (S : List Int) : List Value := if isHdr S then [.int .u64 (hE S), .int .u64 (hZ S), .int .u32 (hF S), .int .u32 (hS S)] else [.int .u64 0, .int .u64 0, .int .u32 0, .int .u32 0]
theorem hcells_len (S : List Int) : (hcells S).length = 4 := by unfold hcells; split <;> rfl
theorem hcells_one (S : List Int) : ∀ v ∈ hcells S, v.oneCell' = true := by
  unfold hcells
  split <;> intro v hv <;> simp at hv <;> rcases hv with rfl | rfl | rfl | rfl <;> rfl
theorem rangeAt_new (w : World) (L : List Value) (t : TypeId) : (w.alloc (.cells L.toArray t)).rangeAt w.heap.size 0 L := fun j u hu => by
  rw [Nat.zero_add, World.cell?_alloc_new]
  simpa using hu
theorem parses_cells {S : List Int} {w : World} {en : Ending} {w' : World} (h : Parses S w en w') : en = .returned (.tuple #[.agg (hcells S).toArray, .bool (isHdr S)]) ∧ Below w.heap.size w w' := by
  obtain ⟨h1, h2⟩ := h
  refine ⟨?_, h2⟩
  rw [h1]
  unfold hcells
  cases isHdr S <;> rfl
set_option maxRecDepth 100000 in
set_option maxHeartbeats 4000000 in
theorem Slot_any (h : DkAt w d s l v n A) {i : Nat} (hi : i < 2) (h2 : 2 ≤ n) : Calls Try.prog 28 #[.pointer (some ⟨d, 0, none⟩), .int .i64 (i : Int)] w (Slots (slotOf A.seen n i) w) := by
  have hns := h.fits.small
  have HLEN := Lib.hid (Len_any h)
  have HSS := Lib.hid (slotSectors_any w n (by omega))
  have HHA := Lib.hid (headerAt_any h i hi)
  have hat : i * (n / 2) < n := by
    have : i = 0 ∨ i = 1 := by omega
    rcases this with rfl | rfl <;> omega
  have HRD := Lib.hid (Read_yes h (i * (n / 2)) hat)
  have HOLD := Lib.hid h
  have HI := Lib.hid (And.intro hi h2)
  have hi0 : (0 : Int) ≤ (i : Int) := by omega
  have hi2 : (i : Int) < 2 := by omega
  have hm1 : (1 : Int) ≤ ((n / 2 : Nat) : Int) := by omega
  have hsl : (hdrOf A.seen n i).length = 64 := Dk.sec_len h.fits.seen hat
  have hSe : Dk.sec A.seen (i * (n / 2)) = hdrOf A.seen n i := rfl
  rw [hSe] at HRD
  obtain ⟨Z, hZe⟩ : ∃ Z, Z = bys (List.replicate 64 0) := ⟨_, rfl⟩
  have zs := fun w => (zero_of_info zero_sector).1 w
  rw [← hZe] at zs
  have hZl : Z.length = 64 := by rw [hZe]; simp [bys_len]
  have zh := fun w => (zero_of_info zero_header).1 w
  have HZL := Lib.hid hZl
  have hso : Hid (slotOf A.seen n i = if isHdr (hdrOf A.seen n i) = true then if hZ (hdrOf A.seen n i) ≤ ((64 * (n / 2 - 1) : Nat) : Int) then
      if crcOf (dataOf A.seen (i * (n / 2)) (hZ (hdrOf A.seen n i)).toNat) = hS (hdrOf A.seen n i) then ⟨hE (hdrOf A.seen n i), hF (hdrOf A.seen n i), dataOf A.seen (i * (n / 2)) (hZ (hdrOf A.seen n i)).toNat, true⟩ else Shot.no else Shot.no else Shot.no) := Lib.hid rfl
  generalize slotOf A.seen n i = RES at *
  have HRM := Lib.hid (fun (w : World) => Room_any w n hns)
  obtain ⟨q, hq⟩ : ∃ q, isHdr (hdrOf A.seen n i) = q := ⟨_, rfl⟩
  obtain ⟨HC, hHC⟩ : ∃ L, hcells (hdrOf A.seen n i) = L := ⟨_, rfl⟩
  have HPA : Hid (∀ (w : World), Calls Try.prog 36 #[.agg (bys (hdrOf A.seen n i)).toArray] w fun en w' => en = .returned (.tuple #[.agg HC.toArray, .bool q]) ∧ Below w.heap.size w w') := Lib.hid (fun (w : World) => (parse_any w _ hsl).mono fun en w' h => by rw [← hq, ← hHC]; exact parses_cells h)
  have hC4 : HC.length = 4 := by rw [← hHC]; exact hcells_len _
  have hC1 : ∀ v ∈ HC, v.oneCell' = true := by rw [← hHC]; exact hcells_one _
  have hCt : Hid (q = true → HC = [.int .u64 (hE (hdrOf A.seen n i)), .int .u64 (hZ (hdrOf A.seen n i)), .int .u32 (hF (hdrOf A.seen n i)), .int .u32 (hS (hdrOf A.seen n i))]) := Lib.hid fun e => by
    rw [← hHC, hcells, hq, if_pos e]
  have HSL := Lib.hid hsl
  rw [hq] at hso
  have hEr := hE_range (hdrOf A.seen n i)
  have hE2 : Hid (q = true → hE (hdrOf A.seen n i) ≤ 4611686018427387904) := Lib.hid fun e => by
    rw [← hq] at e
    unfold isHdr at e
    have := of_decide_eq_true e
    exact this.2.1
  clear h hat hsl hSe hZe hZl hi h2 hq hHC
  generalize hdrOf A.seen n i = S at *
  have hsS : (Try.prog.info? 57).map (·.size) = some (bys S).length := by rw [bys_len, HSL.out]; exact size_sector
  have hsS' : (Try.prog.info? 57).map (·.size) = some (bys S).toArray.size := by rw [List.size_toArray]; exact hsS
  have hsz : Z.toArray.size = (bys S).toArray.size := by rw [List.size_toArray, List.size_toArray, bys_len, HSL.out, HZL.out]
  have hall : (bys S).toArray.all (·.oneCell') = true := all_oneCell_toArray (bys_one S)
  have hhS : (Try.prog.info? 52).map (·.size) = some HC.toArray.size := by rw [List.size_toArray, hC4]; exact size_header
  have hhz : (#[Value.int .u64 0, .int .u64 0, .int .u32 0, .int .u32 0] : Array Value).size = HC.toArray.size := by rw [show HC.toArray.size = 4 by rw [List.size_toArray, hC4]]; rfl
  have hhall : HC.toArray.all (·.oneCell') = true := all_oneCell_toArray hC1
  clear hC1
  go_enter Try.func28, Try.ntmps28
  go_wp2_with (first | (go_at_call 15; refine HLEN.out.mono ?_; rintro e w' ⟨rfl, rfl⟩) | (go_at_call 14; refine HSS.out.mono ?_; rintro e w' ⟨rfl, rfl⟩) | (go_at_call 22; refine HHA.out.mono ?_; rintro e w' ⟨rfl, rfl⟩) | (go_at_call 35; refine HRD.out.mono ?_; rintro e w1 ⟨rfl, hb1⟩) | (with_reducible refine wpList_store_new rfl 57 (.tmp 8) (.tmp 30) rfl w1 Z.toArray (bys S).toArray rfl rfl rfl hsS' hsz hall ?_) | (with_reducible refine wpList_load_mid rfl 57 (.tmp 8) rfl w1.heap.size 0 rfl (bys S) _ (rangeAt_new _ _ _) Try.underlying57 rfl hsS ?_) | (go_at_call 36; refine (HPA.out _).mono ?_; rintro e w2 ⟨rfl, hb2⟩) | (with_reducible refine wpList_store_new rfl 52 (.tmp 10) (.tmp 35) rfl w2 #[.int .u64 0, .int .u64 0, .int .u32 0, .int .u32 0] HC.toArray rfl rfl rfl hhS hhz hhall ?_))
  have hB2 : Below w.heap.size w (w2.alloc (.cells HC.toArray 52)) := by
    have h1 : Below w.heap.size w (w1.alloc (.cells (bys S).toArray 57)) := hb1.alloc hb1.size _
    exact (h1.trans (hb2.mono h1.size)).alloc (Nat.le_trans h1.size hb2.size) _
  have HB2 := Lib.hid hB2
  have HBLK : Hid ((w2.alloc (.cells HC.toArray 52)).heap[w2.heap.size]? = some (.cells HC.toArray 52 (0, 0))) := Lib.hid (heap_alloc_last _ _)
  clear hb1 hb2 hB2 HLEN HSS HHA HRD HPA zs zh hsS hsS' hsz hall hhS hhz hhall
  generalize w2.alloc (.cells HC.toArray 52) = W2 at *
  generalize w2.heap.size = p at *
  generalize w1.heap.size = p1 at *
  cases q
  · have hRES : RES = Shot.no := by rw [hso.out, if_neg (by simp)]
    have HE : Hid (Slots RES w (.returned (.tuple #[.int .i64 0, .int .u32 0, .slice none 0 0, .bool false])) W2.drew) := Lib.hid (by rw [hRES]; exact Slots.no' HB2.out.drew)
    clear hso hRES
    refine wp_region_held_drew (S := (fun _ => True)) (by kernel_rfl) ?_ (fun hHeld => ?_)
    · trivial
    refine wpAnyH_take (i := 0) (v := ?_) (by rfl) (by kernel_rfl) (by kernel_rfl) (by kernel_rfl) (by exact fun _ _ _ h => h) (Or.inl ⟨by rfl, ?_⟩) hHeld ?_
    rotate_left 1
    · intro w' hSw
      (try dsimp only at hSw)
      go_simp
      try with_reducible rfl
    try simp only [Act.put, List.setIfInBounds_toArray, List.set_cons_zero, List.set_cons_succ, List.getElem_toArray, List.getElem_cons_zero, List.getElem_cons_succ]
    refine wpAnyH_take (i := 1) (v := ?_) (by rfl) (by kernel_rfl) (by kernel_rfl) (by kernel_rfl) (by exact fun _ _ _ h => h) (Or.inl ⟨by rfl, ?_⟩) hHeld ?_
    rotate_left 1
    · intro w' hSw
      (try dsimp only at hSw)
      go_simp
      try with_reducible rfl
    try simp only [Act.put, List.setIfInBounds_toArray, List.set_cons_zero, List.set_cons_succ, List.getElem_toArray, List.getElem_cons_zero, List.getElem_cons_succ]
    refine wpAnyH_take (i := 2) (v := ?_) (by rfl) (by kernel_rfl) (by kernel_rfl) (by kernel_rfl) (by exact fun _ _ _ h => h) (Or.inl ⟨by rfl, ?_⟩) hHeld ?_
    rotate_left 1
    · intro w' hSw
      (try dsimp only at hSw)
      go_simp
      try with_reducible rfl
    try simp only [Act.put, List.setIfInBounds_toArray, List.set_cons_zero, List.set_cons_succ, List.getElem_toArray, List.getElem_cons_zero, List.getElem_cons_succ]
    refine wpAnyH_take (i := 3) (v := undef) (by rfl) (by kernel_rfl) (by kernel_rfl) (by kernel_rfl) (by exact fun _ _ _ h => h) (Or.inr ⟨by rfl, rfl⟩) hHeld ?_
    try simp only [Act.put, List.setIfInBounds_toArray, List.set_cons_zero, List.set_cons_succ, List.getElem_toArray, List.getElem_cons_zero, List.getElem_cons_succ]
    refine wpAnyH_take (i := 4) (v := undef) (by rfl) (by kernel_rfl) (by kernel_rfl) (by kernel_rfl) (by exact fun _ _ _ h => h) (Or.inr ⟨by rfl, rfl⟩) hHeld ?_
    try simp only [Act.put, List.setIfInBounds_toArray, List.set_cons_zero, List.set_cons_succ, List.getElem_toArray, List.getElem_cons_zero, List.getElem_cons_succ]
    refine wpAnyH_take (i := 5) (v := undef) (by rfl) (by kernel_rfl) (by kernel_rfl) (by kernel_rfl) (by exact fun _ _ _ h => h) (Or.inr ⟨by rfl, rfl⟩) hHeld ?_
    try simp only [Act.put, List.setIfInBounds_toArray, List.set_cons_zero, List.set_cons_succ, List.getElem_toArray, List.getElem_cons_zero, List.getElem_cons_succ]
    refine wpAnyH_take (i := 6) (v := undef) (by rfl) (by kernel_rfl) (by kernel_rfl) (by kernel_rfl) (by exact fun _ _ _ h => h) (Or.inr ⟨by rfl, rfl⟩) hHeld ?_
    try simp only [Act.put, List.setIfInBounds_toArray, List.set_cons_zero, List.set_cons_succ, List.getElem_toArray, List.getElem_cons_zero, List.getElem_cons_succ]
    refine wpAnyH_take (i := 7) (v := undef) (by rfl) (by kernel_rfl) (by kernel_rfl) (by kernel_rfl) (by exact fun _ _ _ h => h) (Or.inr ⟨by rfl, rfl⟩) hHeld ?_
    try simp only [Act.put, List.setIfInBounds_toArray, List.set_cons_zero, List.set_cons_succ, List.getElem_toArray, List.getElem_cons_zero, List.getElem_cons_succ]
    refine wpAnyH_take (i := 8) (v := undef) (by rfl) (by kernel_rfl) (by kernel_rfl) (by kernel_rfl) (by exact fun _ _ _ h => h) (Or.inr ⟨by rfl, rfl⟩) hHeld ?_
    try simp only [Act.put, List.setIfInBounds_toArray, List.set_cons_zero, List.set_cons_succ, List.getElem_toArray, List.getElem_cons_zero, List.getElem_cons_succ]
    refine wpAnyH_take (i := 9) (v := undef) (by rfl) (by kernel_rfl) (by kernel_rfl) (by kernel_rfl) (by exact fun _ _ _ h => h) (Or.inr ⟨by rfl, rfl⟩) hHeld ?_
    try simp only [Act.put, List.setIfInBounds_toArray, List.set_cons_zero, List.set_cons_succ, List.getElem_toArray, List.getElem_cons_zero, List.getElem_cons_succ]
    refine wpAnyH_take (i := 10) (v := ?_) (by rfl) (by kernel_rfl) (by kernel_rfl) (by kernel_rfl) (by exact fun _ _ _ h => h) (Or.inl ⟨by rfl, ?_⟩) hHeld ?_
    rotate_left 1
    · intro w' hSw
      (try dsimp only at hSw)
      go_simp
      try with_reducible rfl
    try simp only [Act.put, List.setIfInBounds_toArray, List.set_cons_zero, List.set_cons_succ, List.getElem_toArray, List.getElem_cons_zero, List.getElem_cons_succ]
    refine wpAnyH_done (by kernel_rfl) ?_ _
    clear hHeld
    go_wp2_with fail
    refine bodyPost_ret (v := .tuple #[.int .i64 0, .int .u32 0, .slice none 0 0, .bool false]) (by simp [results, Try.results28]) rfl HE.out
  · have hHC := hCt.out rfl
    have hE3 := hE2.out rfl
    obtain ⟨z, hz⟩ : ∃ z : Nat, hZ S = (z : Int) := ⟨(hZ S).toNat, by have := hZ_range S; omega⟩
    have hso2 := hso.out
    rw [if_pos rfl, hz] at hso2
    rw [hz] at hHC
    have hc1 : W2.drew.cell? ⟨p, 1, none⟩ = some (.int .u64 (z : Int)) := by
      have := HBLK.out
      rw [hHC] at this
      simp [World.cell?, heap_drew', this]
    have HLEN2 := Lib.hid (Len_any (HOLD.out.kept HB2.out.drew))
    have HROOM := HRM.out W2.drew
    have hrw : IntKind.u64.wrap ((64 * (n / 2 - 1) : Nat) : Int) = ((64 * (n / 2 - 1) : Nat) : Int) := IntWalk.u64_in _ (by omega)
    have hroom : 64 * (n / 2 - 1) ≤ 32000 := by omega
    have HRR := Lib.hid HROOM
    have HSO := Lib.hid hso2
    have HHC := Lib.hid hHC
    clear hso hso2 hHC HROOM hCt hE2 hz
    obtain ⟨rm, hrm⟩ : ∃ x, x = 64 * (n / 2 - 1) := ⟨_, rfl⟩
    rw [← hrm] at hrw hroom HRR HSO
    have HRMM := Lib.hid hrm
    clear hrm
    refine wp_region_held_drew (S := (fun w' => w'.cell? ⟨p, 1, none⟩ = some (.int .u64 (z : Int)))) (by kernel_rfl) ?_ (fun hHeld => ?_)
    · exact hc1
    refine wpAnyH_take (i := 0) (v := ?_) (by rfl) (by kernel_rfl) (by kernel_rfl) (by kernel_rfl) (by exact fun _ _ _ h => h) (Or.inl ⟨by rfl, ?_⟩) hHeld ?_
    rotate_left 1
    · intro w' hSw
      (try dsimp only at hSw)
      go_simp
      try with_reducible rfl
    try simp only [Act.put, List.setIfInBounds_toArray, List.set_cons_zero, List.set_cons_succ, List.getElem_toArray, List.getElem_cons_zero, List.getElem_cons_succ]
    refine wpAnyH_take (i := 1) (v := ?_) (by rfl) (by kernel_rfl) (by kernel_rfl) (by kernel_rfl) (by exact fun _ _ _ h => h) (Or.inl ⟨by rfl, ?_⟩) hHeld ?_
    rotate_left 1
    · intro w' hSw
      (try dsimp only at hSw)
      go_simp
      try with_reducible rfl
    try simp only [Act.put, List.setIfInBounds_toArray, List.set_cons_zero, List.set_cons_succ, List.getElem_toArray, List.getElem_cons_zero, List.getElem_cons_succ]
    refine wpAnyH_take (i := 2) (v := ?_) (by rfl) (by kernel_rfl) (by kernel_rfl) (by kernel_rfl) (by exact fun _ _ _ h => h) (Or.inl ⟨by rfl, ?_⟩) hHeld ?_
    rotate_left 1
    · intro w' hSw
      (try dsimp only at hSw)
      go_simp
      try with_reducible rfl
    try simp only [Act.put, List.setIfInBounds_toArray, List.set_cons_zero, List.set_cons_succ, List.getElem_toArray, List.getElem_cons_zero, List.getElem_cons_succ]
    refine wpAnyH_take (i := 3) (v := ?_) (by rfl) (by kernel_rfl) (by kernel_rfl) (by kernel_rfl) (by exact fun _ _ _ h => h) (Or.inl ⟨by rfl, ?_⟩) hHeld ?_
    rotate_left 1
    · intro w' hSw
      (try dsimp only at hSw)
      go_simp
      try with_reducible rfl
    try simp only [Act.put, List.setIfInBounds_toArray, List.set_cons_zero, List.set_cons_succ, List.getElem_toArray, List.getElem_cons_zero, List.getElem_cons_succ]
    refine wpAnyH_take (i := 4) (v := ?_) (by rfl) (by kernel_rfl) (by kernel_rfl) (by kernel_rfl) (by exact fun _ _ _ h => h) (Or.inl ⟨by rfl, ?_⟩) hHeld ?_
    rotate_left 1
    · intro w' hSw
      (try dsimp only at hSw)
      go_simp
      try with_reducible rfl
    try simp only [Act.put, List.setIfInBounds_toArray, List.set_cons_zero, List.set_cons_succ, List.getElem_toArray, List.getElem_cons_zero, List.getElem_cons_succ]
    refine wpAnyH_take (i := 5) (v := ?_) (by rfl) (by kernel_rfl) (by kernel_rfl) (by kernel_rfl) (by exact fun _ _ _ h => h) (Or.inl ⟨by rfl, ?_⟩) hHeld ?_
    rotate_left 1
    · intro w' hSw
      (try dsimp only at hSw)
      go_simp
      try with_reducible rfl
    try simp only [Act.put, List.setIfInBounds_toArray, List.set_cons_zero, List.set_cons_succ, List.getElem_toArray, List.getElem_cons_zero, List.getElem_cons_succ]
    refine wpAnyH_ready (rs := [6]) (by kernel_rfl) (by simp) ?_
    refine AllReadyH.cons (by rfl) (fun K hK => ?_) AllReadyH.nil
    go_simp
    with_reducible refine (HLEN2.out).mono ?_
    rintro e w' ⟨rfl, rfl⟩
    refine hK.out _ _ ?_ (fun hHeld => ?_)
    · exact hHeld
    clear hK K
    try simp only [Act.put, List.setIfInBounds_toArray, List.set_cons_zero, List.set_cons_succ, List.getElem_toArray, List.getElem_cons_zero, List.getElem_cons_succ]
    refine wpAnyH_ready (rs := [7]) (by kernel_rfl) (by simp) ?_
    refine AllReadyH.cons (by rfl) (fun K hK => ?_) AllReadyH.nil
    go_simp
    with_reducible refine (HRR.out).mono ?_
    rintro e w' ⟨rfl, rfl⟩
    refine hK.out _ _ ?_ (fun hHeld => ?_)
    · exact hHeld
    clear hK K
    try simp only [Act.put, List.setIfInBounds_toArray, List.set_cons_zero, List.set_cons_succ, List.getElem_toArray, List.getElem_cons_zero, List.getElem_cons_succ]
    refine wpAnyH_take (i := 8) (v := ?_) (by rfl) (by kernel_rfl) (by kernel_rfl) (by kernel_rfl) (by exact fun _ _ _ h => h) (Or.inl ⟨by rfl, ?_⟩) hHeld ?_
    rotate_left 1
    · intro w' hSw
      (try dsimp only at hSw)
      go_simp
      try with_reducible rfl
    try simp only [Act.put, List.setIfInBounds_toArray, List.set_cons_zero, List.set_cons_succ, List.getElem_toArray, List.getElem_cons_zero, List.getElem_cons_succ]
    refine wpAnyH_take (i := 9) (v := ?_) (by rfl) (by kernel_rfl) (by kernel_rfl) (by kernel_rfl) (by exact fun _ _ _ h => h) (Or.inl ⟨by rfl, ?_⟩) hHeld ?_
    rotate_left 1
    · intro w' hSw
      (try dsimp only at hSw)
      go_simp
      try with_reducible rfl
    try simp only [Act.put, List.setIfInBounds_toArray, List.set_cons_zero, List.set_cons_succ, List.getElem_toArray, List.getElem_cons_zero, List.getElem_cons_succ]
    refine wpAnyH_take (i := 10) (v := ?_) (by rfl) (by kernel_rfl) (by kernel_rfl) (by kernel_rfl) (by exact fun _ _ _ h => h) (Or.inl ⟨by rfl, ?_⟩) hHeld ?_
    rotate_left 1
    · intro w' hSw
      (try dsimp only at hSw)
      go_simp
      try with_reducible rfl
    try simp only [Act.put, List.setIfInBounds_toArray, List.set_cons_zero, List.set_cons_succ, List.getElem_toArray, List.getElem_cons_zero, List.getElem_cons_succ]
    refine wpAnyH_done (by kernel_rfl) ?_ _
    clear hHeld
    obtain ⟨g2, hg2⟩ : ∃ x, decide (rm < z) = x := ⟨_, rfl⟩
    rw [hg2]
    cases g2
    rotate_left 1
    · have hgt : rm < z := by simpa using hg2
      clear hg2
      have hRES : RES = Shot.no := by rw [HSO.out, if_neg (by omega)]
      have HE : Hid (Slots RES w (.returned (.tuple #[.int .i64 0, .int .u32 0, .slice none 0 0, .bool false])) W2.drew) := Lib.hid (by rw [hRES]; exact Slots.no' HB2.out.drew)
      clear hRES hgt HSO
      go_wp2_with fail
      refine bodyPost_ret (v := .tuple #[.int .i64 0, .int .u32 0, .slice none 0 0, .bool false]) (by simp [results, Try.results28]) rfl HE.out
    · have hgt : ¬ rm < z := by simpa using hg2
      clear hg2
      have hzl : z ≤ rm := by omega
      have hzw : IntKind.i64.wrap (z : Int) = (z : Int) := IntWalk.i64_in _ (by omega)
      have hew : IntKind.i64.wrap (hE S) = hE S := IntWalk.i64_in _ (by omega)
      have hsq := HSO.out
      rw [if_pos (show (z : Int) ≤ (rm : Int) by omega), Int.toNat_natCast] at hsq
      have HRDD := Lib.hid (read_any (HOLD.out.kept HB2.out.drew) (slot := i) (size := z) HI.out.1 (by rw [← HRMM.out]; exact hzl) HI.out.2)
      have hDl : (dataOf A.seen (i * (n / 2)) z).length = z := dataOf_len HOLD.out.fits.seen (by
        have h1 := HI.out
        have h2 := HRMM.out
        have : i = 0 ∨ i = 1 := by omega
        rcases this with rfl | rfl <;> omega)
      have HSQ := Lib.hid hsq
      have HBL2 : Hid (W2.drew.heap[p]? = some (.cells HC.toArray 52 (0, 0))) := HBLK
      have hp : p < W2.drew.heap.size := (Array.getElem?_eq_some_iff.1 HBL2.out).1
      have HDL := Lib.hid hDl
      clear hsq hgt hDl HSO HLEN2 HRR HRM
      generalize dataOf A.seen (i * (n / 2)) z = D at *
      go_wp2_with fail
      refine HRDD.out.mono ?_
      rintro e w3 ⟨rfl, hrow, hb3⟩
      have hbD : BytesAt w3.drew (some ⟨W2.drew.heap.size + 1, 0, none⟩) D := .inr ⟨_, 0, rfl, by
        have := rangeAt_blk (w := w3.drew) (C := bys D) hrow 0 (bys D).length
        rwa [List.drop_zero, List.take_of_length_le (Nat.le_refl _)] at this⟩
      have HSM := Lib.hid (Sum_any w3.drew (some ⟨W2.drew.heap.size + 1, 0, none⟩) D D.length hbD (by rw [HDL.out]; omega))
      have HB3 : Hid (Below w.heap.size w w3.drew) := Lib.hid ((HB2.out.drew.trans (hb3.mono HB2.out.drew.size)).drew)
      have HBD := Lib.hid hbD
      have hblk3 : w3.drew.heap[p]? = some (.cells HC.toArray 52 (0, 0)) := (hb3.block p hp).trans HBL2.out
      have HBL3 := Lib.hid hblk3
      have hc3 : w3.drew.cell? ⟨p, 3, none⟩ = some (.int .u32 (hS S)) := by
        rw [HHC.out] at hblk3
        simp only [World.cell?, hblk3]
        rfl
      have HK3 : Hid (∀ W, Below w3.drew.heap.size w3.drew W → W.cell? ⟨p, 3, none⟩ = some (.int .u32 (hS S))) := Lib.hid fun W h => (h.cell (World.block_lt_of_cell? _ _ hc3)).trans hc3
      clear HRDD hrow hb3 hbD hblk3 hHeld
      have HGB : Hid (w.heap.size ≤ W2.drew.heap.size + 1) := Lib.hid (by have := HB2.out.drew.size; omega)
      generalize W2.drew.heap.size + 1 = gb at *
      obtain ⟨cs, hcs⟩ : ∃ x, crcOf D = x := ⟨_, rfl⟩
      obtain ⟨hs, hhs⟩ : ∃ x, hS S = x := ⟨_, rfl⟩
      rw [hcs, hhs] at HSQ
      rw [hcs] at HSM
      rw [hhs] at hc3 HK3 HHC
      clear hcs hhs
      go_wp2_with fail
      refine wp_region_held_drew (S := (fun w' => w'.cell? ⟨p, 3, none⟩ = some (.int .u32 hs))) (by kernel_rfl) ?_ (fun hHeld => ?_)
      · exact hc3
      refine wpAnyH_take (i := 0) (v := ?_) (by rfl) (by kernel_rfl) (by kernel_rfl) (by kernel_rfl) (by exact fun _ _ _ h => h) (Or.inl ⟨by rfl, ?_⟩) hHeld ?_
      rotate_left 1
      · intro w' hSw
        (try dsimp only at hSw)
        go_simp
        try with_reducible rfl
      try simp only [Act.put, List.setIfInBounds_toArray, List.set_cons_zero, List.set_cons_succ, List.getElem_toArray, List.getElem_cons_zero, List.getElem_cons_succ]
      refine wpAnyH_take (i := 2) (v := ?_) (by rfl) (by kernel_rfl) (by kernel_rfl) (by kernel_rfl) (by exact fun _ _ _ h => h) (Or.inl ⟨by rfl, ?_⟩) hHeld ?_
      rotate_left 1
      · intro w' hSw
        (try dsimp only at hSw)
        go_simp
        try with_reducible rfl
      try simp only [Act.put, List.setIfInBounds_toArray, List.set_cons_zero, List.set_cons_succ, List.getElem_toArray, List.getElem_cons_zero, List.getElem_cons_succ]
      refine wpAnyH_take (i := 3) (v := ?_) (by rfl) (by kernel_rfl) (by kernel_rfl) (by kernel_rfl) (by exact fun _ _ _ h => h) (Or.inl ⟨by rfl, ?_⟩) hHeld ?_
      rotate_left 1
      · intro w' hSw
        (try dsimp only at hSw)
        go_simp
        try with_reducible rfl
      try simp only [Act.put, List.setIfInBounds_toArray, List.set_cons_zero, List.set_cons_succ, List.getElem_toArray, List.getElem_cons_zero, List.getElem_cons_succ]
      refine wpAnyH_ready (rs := [1]) (by kernel_rfl) (by simp) ?_
      refine AllReadyH.cons (by rfl) (fun K hK => ?_) AllReadyH.nil
      go_simp
      with_reducible refine (HSM.out).mono ?_
      rintro e w4 ⟨rfl, hb4⟩
      refine hK.out _ _ ?_ (fun hHeld => ?_)
      · exact HK3.out _ hb4
      clear hK K
      try simp only [Act.put, List.setIfInBounds_toArray, List.set_cons_zero, List.set_cons_succ, List.getElem_toArray, List.getElem_cons_zero, List.getElem_cons_succ]
      refine wpAnyH_take (i := 4) (v := ?_) (by rfl) (by kernel_rfl) (by kernel_rfl) (by kernel_rfl) (by exact fun _ _ _ h => h) (Or.inl ⟨by rfl, ?_⟩) hHeld ?_
      rotate_left 1
      · intro w' hSw
        (try dsimp only at hSw)
        go_simp
        try with_reducible rfl
      try simp only [Act.put, List.setIfInBounds_toArray, List.set_cons_zero, List.set_cons_succ, List.getElem_toArray, List.getElem_cons_zero, List.getElem_cons_succ]
      refine wpAnyH_done (by kernel_rfl) ?_ _
      clear hHeld
      have HB4 : Hid (Below w.heap.size w w4) := Lib.hid (HB3.out.trans (hb4.mono HB3.out.size))
      have HBD4 : Hid (BytesAt w4 (some ⟨gb, 0, none⟩) D) := Lib.hid (by
        rcases HBD.out with e | ⟨g, off, e, h⟩
        · exact .inl e
        · exact .inr ⟨g, off, e, fun j u hu => (hb4.cell (p := ⟨g, off + j, none⟩) (World.block_lt_of_cell? _ _ (h j u hu))).trans (h j u hu)⟩)
      have hblk4 : w4.heap[p]? = some (.cells HC.toArray 52 (0, 0)) := (hb4.block _ (Array.getElem?_eq_some_iff.1 HBL3.out).1).trans HBL3.out
      rw [HHC.out] at hblk4
      have hk0 : w4.cell? ⟨p, 0, none⟩ = some (.int .u64 (hE S)) := by simp [World.cell?, hblk4]
      have hk2 : w4.cell? ⟨p, 2, none⟩ = some (.int .u32 (hF S)) := by simp [World.cell?, hblk4]
      clear hb4 hblk4 HSM HK3 hc3
      by_cases heq : cs = hs
      · have hb1 : (cs == hs) = true := by simpa using heq
        have hb2 : (cs != hs) = false := by simp [heq]
        have hres := HSQ.out
        rw [if_pos heq] at hres
        have HE : Hid (∀ k, Slots RES w (.returned (.tuple #[.int .i64 (hE S), .int .u32 (hF S), .slice (some ⟨gb, 0, none⟩) D.length D.length, .bool true])) (w4.drewN k)) := Lib.hid fun k => by
          rw [hres]
          refine ⟨some ⟨gb, 0, none⟩, D.length, rfl, ?_, Nat.le_refl _, HB4.out.trans (by exact ⟨rfl, rfl, rfl, Nat.le_refl _, fun _ _ => rfl⟩), fun _ x hx => by cases hx; exact HGB.out⟩
          rcases HBD4.out with e | ⟨g, off, e, h⟩
          · exact .inl e
          · exact .inr ⟨g, off, e, h⟩
        clear hres heq HSQ
        go_wp2_with fail
        go_quiet (fail)
        go_wp2_with fail
        refine bodyPost_ret (v := .tuple #[.int .i64 (hE S), .int .u32 (hF S), .slice (some ⟨gb, 0, none⟩) D.length D.length, .bool true]) (by simp [results, Try.results28]) rfl (HE.out _)
      · have hb1 : (cs == hs) = false := by simpa using heq
        have hb2 : (cs != hs) = true := by simpa using heq
        have hres := HSQ.out
        rw [if_neg heq] at hres
        have HE : Hid (Slots RES w (.returned (.tuple #[.int .i64 0, .int .u32 0, .slice none 0 0, .bool false])) w4) := Lib.hid (by rw [hres]; exact Slots.no' HB4.out)
        clear hres heq HSQ
        go_wp2_with fail
        refine bodyPost_ret (v := .tuple #[.int .i64 0, .int .u32 0, .slice none 0 0, .bool false]) (by simp [results, Try.results28]) rfl HE.out
end
end Go.Proofs.Ytienhidbgohhcaa
