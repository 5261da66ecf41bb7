/-
  NatReads: any text's number, on any bench: the law's walk.
-/
import Derived.Test.YtaiemcacpimcjaaDoorRefB
set_option linter.unusedVariables false
set_option linter.unusedSimpArgs false
namespace Go.Proofs.YtaiemcacpimcjaaDoor
open Go.RowKit Rep

theorem new_any (n : Int) (w : World) (h : n ≤ 9223372036854775807) : ∃ m : Nat, 1 ≤ m ∧ m ≤ maxLen ∧ max n 1 = (m : Int) ∧ Calls Tryd.prog 10 #[.int .i64 n] w (GivesBench m w) := by
  by_cases h1 : n < 1
  · exact ⟨1, by omega, by unfold maxLen; omega, by omega, new_low n w h1⟩
  · obtain ⟨m, rfl⟩ : ∃ m : Nat, n = (m : Int) := ⟨n.toNat, by omega⟩
    exact ⟨m, by omega, by unfold maxLen; omega, by omega, new_high m w (by omega) (by unfold maxLen; omega)⟩

theorem one_reads (w : World) (t : Option Addr × Nat × Nat) : Reads (w.alloc (.cells #[sliceV t] 23)) (some ⟨w.heap.size, 0, none⟩) ([t].map sliceV) := by
  simpa using (Row.new (E := 23) w #[sliceV t]).reads0

theorem infoInt : (Tryd.prog.info? 3).map (fun i => (i.zero, i.size, i.bytes)) = some (some (.int .i64 0), 1, 8) := by kernel_rfl
/-- What a byte less 48 is. -/
def dgv (d : Nat) : Value := .int .i64 ((d : Int) - 48)
/-- The digits of a text, the least one first. -/
def dsOf (l : List UInt8) : List Nat := l.reverse.map (fun c => c.toNat - 48)
theorem dsOf_dig {l : List UInt8} (h : l.all digB = true) : Dig 10 (dsOf l) := by
  intro d hd
  obtain ⟨c, hc, rfl⟩ := List.mem_map.1 hd
  have := List.all_eq_true.1 h c (List.mem_reverse.1 hc)
  unfold digB at this
  simp only [Bool.and_eq_true, decide_eq_true_eq] at this
  omega
theorem dsOf_val (l : List UInt8) : val 10 (dsOf l) = numTxt l := by
  have key : ∀ m : List UInt8, val 10 (m.map (fun c => c.toNat - 48)) = numTxt m.reverse := by
    intro m
    induction m with
    | nil => rfl
    | cons c m ih => rw [List.map_cons, val_cons, List.reverse_cons, numTxt_snoc, ih]; omega
  have := key l.reverse
  rwa [List.reverse_reverse] at this
theorem dsOf_cells {l : List UInt8} (h : l.all digB = true) : (l.reverse.map (·.toNat)).map dgv = (dsOf l).map i64v := by
  unfold dsOf
  rw [List.map_map, List.map_map]
  refine List.map_congr_left fun c hc => ?_
  have := List.all_eq_true.1 h c (List.mem_reverse.1 hc)
  unfold digB at this
  simp only [Bool.and_eq_true, decide_eq_true_eq] at this
  simp only [Function.comp, dgv, i64v]
  congr 1
  omega
theorem strip_val10 {ds : List Nat} (h : Dig 10 ds) : strip ds = D (val 10 ds) := strip_eq (by omega) h

/-- The digits from k on are there, and whether they are such. -/
def DigsIn (w : World) (l : List UInt8) (k : Nat) (dv ov : Value) (wr : World) : Prop :=
  ∃ (a : Option Addr) (c : Nat), dv = .slice a (l.length - k) c ∧ ov = .bool (decide (0 < l.length) && (l.drop k).all digB) ∧ OwnR 3 dgv w.heap.size wr a c ((l.drop k).reverse.map (·.toNat)) ∧ Below w.heap.size w wr

theorem digs_next (l : List UInt8) (k : Nat) (h : k < l.length) : ∃ c, l[k]? = some c ∧ (l.drop k).reverse.map (·.toNat) = (l.drop (k + 1)).reverse.map (·.toNat) ++ [c.toNat] ∧ (l.drop k).all digB = (digB c && (l.drop (k + 1)).all digB) := by
  refine ⟨l[k], List.getElem?_eq_getElem h, ?_, ?_⟩
  · rw [List.drop_eq_getElem_cons h, List.reverse_cons, List.map_append]; rfl
  · conv => lhs; rw [List.drop_eq_getElem_cons h]
    rfl

theorem DigsIn.next {w2 wr w' : World} {l : List UInt8} {k m : Nat} {o : Bool} {ch : UInt8} {O : List Nat} {a1 : Option Addr} {g' cap' : Nat} {ob : Obj} (hV : (l.drop k).reverse.map (·.toNat) = O ++ [ch.toNat])
    (hE : (decide (0 < l.length) && (l.drop k).all digB) = (o && digB ch)) (hmk : l.length - k = m + 1) (hB : Below w2.heap.size w2 wr) (hblk : ∀ g, blk a1 = some g → w2.heap.size ≤ g)
    (hrow : Row 3 w' g' cap' ((O ++ [ch.toNat]).map dgv)) (hcap : cap' ≤ maxLen) (hgrow : (wr.alloc ob).grownBy w' (blk a1)) (hg' : w2.heap.size ≤ g') :
    DigsIn w2 l k (.slice (some ⟨g', 0, none⟩) (m + 1) cap') (.bool (o && digB ch)) w' := by
  have hsz := hB.size
  refine ⟨some ⟨g', 0, none⟩, cap', by rw [hmk], by rw [hE], ⟨hcap, .inr ⟨g', rfl, hg', by rw [hV]; exact hrow⟩⟩, (hB.alloc hB.size _).grown hgrow (by simp <;> omega) (fun k hk => hblk k hk)⟩

/-- Where limbs' last one is, and whether it is 0. -/
theorem last_limb {w : World} {a : Option Addr} {c : Nat} {xs : List Nat} (h : Handed w a c xs) :
    (xs.length = 0 ∧ topB xs = true) ∨ (0 < xs.length ∧ ∃ g off x : Nat, a = some ⟨g, off, none⟩ ∧ x < 4294967296 ∧ w.cell? ⟨g, off + (xs.length - 1), none⟩ = some (.int .u32 (x : Int)) ∧ topB xs = decide (x ≠ 0)) := by
  rcases Nat.eq_zero_or_pos xs.length with h0 | h0
  · exact .inl ⟨h0, by unfold topB; rw [h0]; rfl⟩
  · obtain ⟨g, off, rfl, hg, hcell⟩ := h.reads.open' (by rw [List.length_map]; exact h0)
    exact .inr ⟨h0, g, off, _, rfl, h.lim.getD _ (by omega), hcell _ _ (map_getElem? (xs := xs) (by omega)), by unfold topB; rw [decide_eq_false (p := xs.length = 0) (by omega), Bool.false_or]⟩

theorem last_three {w : World} {a : Option Addr} {c : Nat} {xs : List Nat} (h : Handed w a c xs) :
    (((xs.length : Int) == 0) = true ∧ topB xs = true) ∨
    (0 < xs.length ∧ ∃ g off : Nat, a = some ⟨g, off, none⟩ ∧ w.cell? ⟨g, off + (xs.length - 1), none⟩ = some (.int .u32 0) ∧ topB xs = false ∧ ((xs.length : Int) == 0) = false ∧ ((xs.length : Int) - 1).toNat = xs.length - 1) ∨
    (0 < xs.length ∧ ∃ g off x : Nat, a = some ⟨g, off, none⟩ ∧ x < 4294967296 ∧ w.cell? ⟨g, off + (xs.length - 1), none⟩ = some (.int .u32 (x : Int)) ∧ topB xs = true ∧ ((xs.length : Int) == 0) = false ∧ ((xs.length : Int) - 1).toNat = xs.length - 1 ∧ ((x : Int) != 0) = true) := by
  rcases last_limb h with ⟨h0, ht⟩ | ⟨h0, g, off, x, rfl, hx, hcell, ht⟩
  · exact .inl ⟨by rw [h0]; rfl, ht⟩
  · by_cases hx0 : x = 0
    · subst hx0
      exact .inr (.inl ⟨h0, g, off, rfl, hcell, by rw [ht]; rfl, cast_beq_no (by omega), by omega⟩)
    · exact .inr (.inr ⟨h0, g, off, x, rfl, hx, hcell, by rw [ht, decide_eq_true hx0], cast_beq_no (by omega), by omega, by simp; omega⟩)

theorem below_drewN (B : Nat) (w : World) (n : Nat) : Below B w (w.drewN n) := ⟨rfl, rfl, rfl, Nat.le_refl _, fun _ _ => rfl⟩
theorem txt_eq_self (l : List UInt8) : ((strOf l).toList == (strOf l).toList) = true := by simp

/-- What was read and is told: the digits of a text in their places. -/
theorem digs_reads {wr w4 : World} {B : Nat} {a : Option Addr} {c : Nat} {l : List UInt8} (hd : l.all digB = true) (ho : OwnR 3 dgv B wr a c (l.reverse.map (·.toNat))) (hb : Below wr.heap.size wr w4) :
    Reads w4 a ((dsOf l).map i64v) ∧ (dsOf l).length = l.length ∧ l.length ≤ c ∧ c ≤ maxLen ∧ Reads w4 a ((D (numTxt l)).map i64v) ∧ (D (numTxt l)).length ≤ l.length ∧ (strip (dsOf l)).length = (D (numTxt l)).length := by
  have h1 : Reads w4 a ((dsOf l).map i64v) := by
    rw [← dsOf_cells hd]
    exact ho.reads.kept hb
  have h2 : (dsOf l).length = l.length := by simp [dsOf]
  have h3 : strip (dsOf l) = D (numTxt l) := by rw [strip_val10 (dsOf_dig hd), dsOf_val]
  have hle := ho.le
  have h4 := strip_length (dsOf l)
  have h5 := cutAt_le (dsOf l) (dsOf l).length
  refine ⟨h1, h2, by simpa using hle, ho.1, ?_, by rw [← h3]; omega, by rw [h3]⟩
  rw [← h3]
  unfold strip
  rw [List.map_take]
  exact h1.take _

set_option maxRecDepth 100000 in
set_option maxHeartbeats 4000000 in
theorem reads_walk (n : Int) (s : ByteArray) (ax : Option Addr) (xs : List Nat) (cx : Nat) (w : World) (hx : Handed w ax cx xs) (hs : s.size ≤ maxLen) (hn : n ≤ 9223372036854775807) :
    Calls Tryd.prog 4 #[.int .i64 n, .string s, .slice ax xs.length cx] w (Holds w) := by
  unfold maxLen at hs
  go_enter Tryd.func4, Tryd.ntmps4
  go_wp2_with fail
  refine (speaks_any w).mono ?_
  rintro e w1 ⟨rfl, hb1⟩
  have HB1 := Lib.hid hb1
  have HX := Lib.hid (hx.kept hb1)
  have hgr := great_any (some ⟨w1.heap.size, 0, none⟩) 1 [(ax, xs.length, cx)] _ (one_reads w1 (ax, xs.length, cx)) (by simp)
  have HG := Lib.hid hgr
  clear hb1 hx hgr
  by_cases hs1 : 120 < s.size
  · have hs' : (120 : Int) < (s.size : Int) := by omega
    go_wp2_with fail
    go_ret
    exact ⟨rfl, HB1.out⟩
  · have hs' : ¬ (120 : Int) < (s.size : Int) := by omega
    go_wp2_with fail
    refine HG.out.mono ?_
    rintro e w2 ⟨rfl, rfl⟩
    have HB2 := Lib.hid (HB1.out.alloc HB1.out.size (.cells #[sliceV (ax, xs.length, cx)] 23))
    have hb2 := (Below.refl w1.heap.size w1).alloc (Nat.le_refl _) (.cells #[sliceV (ax, xs.length, cx)] 23)
    have HX2 := Lib.hid (HX.out.kept hb2)
    clear hb2 HG HX HB1
    by_cases hgt : xs.length ≤ 12
    · have hany : ([(ax, xs.length, cx)].any fun t => decide (12 < t.2.1)) = false := by simp; omega
      rw [hany]
      clear hany
      generalize hw2 : w1.alloc (.cells #[sliceV (ax, xs.length, cx)] 23) = w2 at *
      clear hw2
      obtain ⟨l, hl⟩ : ∃ l, l = s.data.toList := ⟨_, rfl⟩
      have HLL : Hid (l.length = s.size) := Lib.hid (by rw [hl]; exact size_list s)
      have HLB : Hid (∀ (k : Nat) (h : k < s.size), l[k]? = some s[k]) := Lib.hid (fun k h => by rw [hl]; exact byte_at h)
      have HLE := Lib.hid hl
      clear hl
      have HS : DigsIn w2 l s.size (.slice (some ⟨w2.heap.size, 0, none⟩) 0 0) (.bool (decide (0 < s.size))) (w2.alloc (.cells #[] 3)) := by
        refine ⟨some ⟨w2.heap.size, 0, none⟩, 0, by rw [HLL.out]; simp, ?_, ⟨by simp [maxLen], .inr ⟨w2.heap.size, rfl, Nat.le_refl _, ?_⟩⟩, (Below.refl _ _).alloc (Nat.le_refl _) _⟩
        · rw [← HLL.out, List.drop_length, List.all_nil, Bool.and_true]
        · rw [← HLL.out, List.drop_length]
          exact Row.new (E := 3) w2 #[]
      go_wp2_with fail
      go_loopw [7, 8, 9] (fun dv ov iv wr => ∃ k : Nat, k ≤ s.size ∧ iv = .int .i64 ((k : Int) - 1) ∧ DigsIn w2 l k dv ov wr) (fun _ _ iv _ => (intOf iv + 1).toNat)
      case atStart =>
        exact ⟨s.size, Nat.le_refl _, rfl, HS⟩
      case round =>
        obtain ⟨k, hk, rfl, a1, c1, rfl, rfl, ho, hB⟩ := hrel
        clear HS
        cases k with
        | zero =>
          rw [List.drop_zero] at ho
          rw [Nat.sub_zero, List.drop_zero]
          have hll : l.length = s.size := HLL.out
          have HOK : Hid (isDigs l = (decide (0 < l.length) && l.all digB)) := Lib.hid (by
            unfold isDigs
            rw [decide_eq_true (p := l.length ≤ 10000) (by omega), Bool.and_true]
            congr 1
            rcases Nat.eq_zero_or_pos l.length with h | h
            · rw [h]; rfl
            · rw [decide_eq_true h, decide_eq_true (by omega)])
          have hl120 : l.length ≤ 120 := by omega
          clear hll
          rw [← HOK.out]
          obtain ⟨m, hm1, hm2, hmx, hnew⟩ := new_any n wr hn
          have HO := Lib.hid ho
          have HB := Lib.hid hB
          have HNEW := Lib.hid hnew
          clear ho hB hnew
          have hdb : isDigs l = true → l.all digB = true := fun h => by rw [HOK.out, Bool.and_eq_true] at h; exact h.2
          have HDB := Lib.hid hdb
          clear hdb HOK
          go_wp2_with fail
          refine HNEW.out.mono ?_
          rintro e w3 ⟨rfl, rfl⟩
          have hbe : Bench (wr.alloc (.cells #[.int .i64 (m : Int), .bool false] 58)) wr.heap.size m false := GivesBench.bench
          have HB3 : Hid (Below wr.heap.size wr (wr.alloc (.cells #[.int .i64 (m : Int), .bool false] 58))) := Lib.hid ((Below.refl _ _).alloc (Nat.le_refl _) _)
          have hp := Parse_any wr.heap.size m s _ false hbe (by unfold maxLen; omega) hm2
          rw [← HLE.out] at hp
          have HP := Lib.hid hp
          have HBE := Lib.hid hbe
          clear hp hbe HNEW
          go_wp2_with fail
          refine HP.out.mono ?_
          rintro e w4 hgp
          clear HP
          have hB24 : Below w.heap.size w wr := HB2.out.trans (HB.out.mono HB2.out.size)
          cases hd : isDigs l with
          | false =>
            unfold GivesParse at hgp
            rw [hd] at hgp
            obtain ⟨rfl, rfl⟩ := hgp
            have HX3 := Lib.hid ((HX2.out.kept HB.out).kept HB3.out)
            have HF := Lib.hid (hB24.trans (HB3.out.mono hB24.size))
            clear hB24
            generalize wr.alloc (.cells #[.int .i64 (m : Int), .bool false] 58) = w3 at *
            go_wp2_with fail
            refine (Right_any ax cx xs w3 HX3.out).mono ?_
            rintro e w' ⟨rfl, rfl⟩
            have hxc := HX3.out.cap
            have hxl := HX3.out.le
            unfold maxLen at hxc
            rcases last_limb HX3.out with ⟨h0, ht⟩ | ⟨h0, g, off, x, rfl, hx, hcell, ht⟩
            · rw [ht]
              have hz : ((xs.length : Int) == 0) = true := by rw [h0]; rfl
              go_wp2_with fail
              refine (over_any w3 wr.heap.size m false HBE.out).mono ?_
              rintro e w' ⟨rfl, rfl⟩
              go_wp2_with fail
              go_ret
              exact ⟨rfl, HF.out⟩
            · rw [ht]
              have hz : ((xs.length : Int) == 0) = false := cast_beq_no (by omega)
              have hi : ((xs.length : Int) - 1).toNat = xs.length - 1 := by omega
              by_cases hx0 : x = 0
              · subst hx0
                rw [decide_eq_false (p := (0 : Nat) ≠ 0) (by simp)]
                go_wp2_with fail
                refine (over_any w3 wr.heap.size m false HBE.out).mono ?_
                rintro e w' ⟨rfl, rfl⟩
                go_wp2_with fail
                go_ret
                exact ⟨rfl, HF.out⟩
              · rw [decide_eq_true hx0]
                have hxn : ((x : Int) != 0) = true := by simp; omega
                go_wp2_with fail
                refine (over_any w3 wr.heap.size m false HBE.out).mono ?_
                rintro e w' ⟨rfl, rfl⟩
                go_wp2_with fail
                go_ret
                exact ⟨rfl, HF.out⟩
          | true =>
            have HD : Hid (∀ w4, Below wr.heap.size wr w4 → _) := Lib.hid (fun w4 hb => digs_reads (HDB.out hd) HO.out (w4 := w4) hb)
            have hLl := L_txt_len (HDB.out hd)
            obtain ⟨N, hN⟩ : ∃ N, N = numTxt l := ⟨_, rfl⟩
            rw [← hN] at hLl
            have hDl : (D N).length ≤ l.length := by rw [hN]; exact (HD.out wr (Below.refl _ _)).2.2.2.2.2.1
            have HCUT : Hid (∀ w', Below wr.heap.size wr w' → Calls Tryd.prog 31 #[.slice a1 l.length c1] w' (Gives (.slice a1 (D N).length c1) w')) := Lib.hid (fun w' hb => by
              obtain ⟨h1, h2, h3, h4, h5, h6, h7⟩ := HD.out w' hb
              have h := Cut_any a1 c1 (dsOf l) w' h1 (by omega) h4
              rw [h2, h7, ← hN] at h
              exact h)
            have HLIM : Hid (∀ w', Below wr.heap.size wr w' → Calls Tryd.prog 24 #[.slice a1 (D N).length c1] w' (GivesOwn (L N) w')) := Lib.hid (fun w' hb => by
              obtain ⟨h1, h2, h3, h4, h5, h6, h7⟩ := HD.out w' hb
              rw [← hN] at h5
              have h := Limbs_any a1 c1 (D N) w' h5 (rep_dig (by omega) N) (by omega)
              rw [show val 10 (D N) = N from val_rep (by omega) N] at h
              exact h)
            have HTXT : Hid (∀ w', Below wr.heap.size wr w' → Calls Tryd.prog 28 #[.slice a1 (D N).length c1] w' fun e w'' => e = .returned (.string (strOf (txt N))) ∧ Below w'.heap.size w' w'') := Lib.hid (fun w' hb => by
              obtain ⟨h1, h2, h3, h4, h5, h6, h7⟩ := HD.out w' hb
              rw [← hN] at h5
              have h := TextD_any a1 c1 (D N) w' h5 (rep_dig (by omega) N) (by omega)
              rw [txtD_D] at h
              exact h)
            have hxc := HX2.out.cap
            have hxl := HX2.out.le
            unfold maxLen at hxc
            unfold GivesParse at hgp
            rw [hd, if_pos (by rfl), ← hN] at hgp
            clear HDB HD HO hd HLB HLE hN
            by_cases hm : (L N).length ≤ m
            · rw [if_pos hm] at hgp
              obtain ⟨a4, c4, rfl, hn4, hbe4, hb4⟩ := hgp
              have HB4 := Lib.hid (HB3.out.trans (hb4.mono HB3.out.size))
              have HF := Lib.hid (hB24.trans (HB4.out.mono hB24.size))
              have HX4 := Lib.hid ((HX2.out.kept HB.out).kept HB4.out)
              have HN4 := Lib.hid hn4
              have HBE4 := Lib.hid hbe4
              have hmi : ¬ (m : Int) < ((L N).length : Int) := by omega
              clear hn4 hbe4 hb4 hB24 hm
              go_wp2_with fail
              refine (Right_any ax cx xs w4 HX4.out).mono ?_
              rintro e w' ⟨rfl, rfl⟩
              rcases last_three HX4.out with ⟨hz, ht⟩ | ⟨h0, g, off, rfl, hcell, ht, hz, hi⟩ | ⟨h0, g, off, x, rfl, hx, hcell, ht, hz, hi, hxn⟩
              all_goals
                rw [ht]
                clear ht HX2 HX4
                go_wp2_with fail
                refine (HCUT.out w4 HB4.out).mono ?_
                rintro e w' ⟨rfl, rfl⟩
                go_wp2_with fail
                refine (HLIM.out w4 HB4.out).mono ?_
                rintro e w5 ⟨a5, c5, rfl, ho5, hb5⟩
                have HB5 := Lib.hid (HB4.out.trans (hb5.mono HB4.out.size))
                have HF5 := Lib.hid (HF.out.trans (hb5.mono HF.out.size))
                have HBE5 := Lib.hid (HBE4.out.kept hb5)
                have HN5 := Lib.hid (HN4.out.kept hb5)
                have HO5 := Lib.hid ho5
                clear ho5 hb5
                go_wp2_with fail
                refine (Same_any a4 a5 c4 c5 (L N) (L N) w5 HN5.out.1 HO5.out.reads (by omega)).mono ?_
                rintro e w6 ⟨rfl, nd, rfl⟩
                rw [decide_eq_true (p := L N = L N) rfl]
                have HB6 : Hid (Below wr.heap.size wr (w5.drewN nd)) := Lib.hid (HB5.out.trans (below_drewN _ _ _))
                have HF6 : Hid (Below w.heap.size w (w5.drewN nd)) := Lib.hid (HF5.out.trans (below_drewN _ _ _))
                have HBE6 : Hid (Bench (w5.drewN nd) wr.heap.size m false) := Lib.hid HBE5.out
                have HN6 : Hid (NumAt (w5.drewN nd) a4 c4 N) := Lib.hid HN5.out
                clear HN5 HO5 HBE5 HB5 HF5
                generalize w5.drewN nd = w6 at *
                go_wp2_with fail
                refine (over_any w6 wr.heap.size m false HBE6.out).mono ?_
                rintro e w' ⟨rfl, rfl⟩
                go_wp2_with fail
                refine (Text_any a4 (L N) c4 w6 (HN6.out.inn (by omega))).mono ?_
                rintro e w7 ⟨rfl, hb7⟩
                rw [V_L]
                have HB7 := Lib.hid (HB6.out.trans (hb7.mono HB6.out.size))
                have HF7 := Lib.hid (HF6.out.trans (hb7.mono HF6.out.size))
                clear hb7
                go_wp2_with fail
                refine (HCUT.out w7 HB7.out).mono ?_
                rintro e w' ⟨rfl, rfl⟩
                go_wp2_with fail
                refine (HTXT.out w7 HB7.out).mono ?_
                rintro e w8 ⟨rfl, hb8⟩
                have HF8 := Lib.hid (HF7.out.trans (hb8.mono HF7.out.size))
                have hself := txt_eq_self (txt N)
                clear hb8
                go_wp2_with fail
                go_ret
                exact ⟨rfl, HF8.out⟩
            · rw [if_neg hm] at hgp
              obtain ⟨rfl, hbe4, hg4⟩ := hgp
              have HB4 := Lib.hid (HB3.out.grown hg4 HB3.out.size (fun k hk => by cases hk; exact Nat.le_refl _))
              have HF := Lib.hid (hB24.trans (HB4.out.mono hB24.size))
              have HX4 := Lib.hid ((HX2.out.kept HB.out).kept HB4.out)
              have HBE4 := Lib.hid hbe4
              have hmi : (m : Int) < ((L N).length : Int) := by omega
              clear hbe4 hg4 hB24 hm
              go_wp2_with fail
              refine (Right_any ax cx xs w4 HX4.out).mono ?_
              rintro e w' ⟨rfl, rfl⟩
              rcases last_three HX4.out with ⟨hz, ht⟩ | ⟨h0, g, off, rfl, hcell, ht, hz, hi⟩ | ⟨h0, g, off, x, rfl, hx, hcell, ht, hz, hi, hxn⟩
              all_goals
                rw [ht]
                clear ht HX2 HX4
                go_wp2_with fail
                refine (HCUT.out w4 HB4.out).mono ?_
                rintro e w' ⟨rfl, rfl⟩
                go_wp2_with fail
                refine (HLIM.out w4 HB4.out).mono ?_
                rintro e w5 ⟨a5, c5, rfl, ho5, hb5⟩
                have HB5 := Lib.hid (HB4.out.trans (hb5.mono HB4.out.size))
                have HF5 := Lib.hid (HF.out.trans (hb5.mono HF.out.size))
                have HBE5 := Lib.hid (HBE4.out.kept hb5)
                clear ho5 hb5
                go_wp2_with fail
                refine (over_any w5 wr.heap.size m true HBE5.out).mono ?_
                rintro e w' ⟨rfl, rfl⟩
                go_wp2_with fail
                go_ret
                exact ⟨rfl, HF5.out⟩
        | succ k =>
          obtain ⟨ch, h1, h2, h3⟩ := digs_next l k (by have := HLL.out; omega)
          have hch : s[k] = ch := by have := HLB.out k (by omega); rw [h1] at this; exact (Option.some.inj this).symm
          have HV := Lib.hid (And.intro h2 h3)
          clear h1 h2 h3
          rw [show (((k + 1 : Nat) : Int) - 1) = (k : Int) from by omega]
          obtain ⟨m, hm⟩ : ∃ m, m = l.length - (k + 1) := ⟨_, rfl⟩
          have hol : ((l.drop (k + 1)).reverse.map (·.toNat)).length = m := by simp [hm]
          rw [← hm]
          have hsz : w2.heap.size ≤ wr.heap.size := hB.size
          have hmb : m ≤ 120 := by have := HLL.out; omega
          have hmk : l.length - k = m + 1 := by have := HLL.out; omega
          have ho1 := ho.kept ((Below.refl wr.heap.size wr).alloc (Nat.le_refl _) (.cells #[dgv ch.toNat] 3))
          have hcell : (wr.alloc (.cells #[dgv ch.toNat] 3)).cell? ⟨wr.heap.size, 0, none⟩ = some (dgv ch.toNat) := (Row.new (E := 3) wr #[dgv ch.toNat]).cell 0 _ rfl
          have HB := Lib.hid (And.intro hB (fun g => ho.blk_ge (g := g)))
          generalize hO : (l.drop (k + 1)).reverse.map (·.toNat) = O at *
          clear hO ho hB hm
          have HC := Lib.hid hcell
          have HO := Lib.hid ho1
          have HOL := Lib.hid hol
          have HMK := Lib.hid hmk
          clear hcell ho1 hol hmk
          generalize hob : (decide (0 < l.length) && (l.drop (k + 1)).all digB) = o at *
          have HE : Hid ((decide (0 < l.length) && (l.drop k).all digB) = (o && digB ch)) := Lib.hid (by rw [HV.out.2, ← hob, ← Bool.and_assoc, Bool.and_comm (decide (0 < l.length)) (digB ch), Bool.and_assoc, Bool.and_comm])
          clear hob
          have hcb : (ch.toNat : Int) ≤ 255 := by have := ch.toNat_lt; omega
          have hkk : ((k : Int) < (s.size : Int)) := by omega
          cases o with
          | false =>
            go_wp2_with (first | (at_builtin; refine wpList_append_one _ rfl (.tmp 48) (.tmp 54) 27 rfl 3 (.int .i64 0) 8 Tryd.underlying27 infoInt rfl dgv w2.heap.size a1 _ _ O rfl HO.out HOL.out ⟨wr.heap.size, 0, none⟩ 1 ch.toNat rfl HC.out rfl (by unfold maxLen; omega) (by omega) (by simp <;> omega) ?_; intro g' cap' w' hrow' hcap hgrow hg') | fail)
            have HR := Lib.hid (DigsIn.next (o := false) HV.out.1 HE.out HMK.out HB.out.1 HB.out.2 hrow' hcap hgrow hg')
            clear hrow' hgrow
            go_wp2_with fail
            go_roundw
            case rel => exact ⟨k, by omega, rfl, by have h := HR.out; rw [Bool.false_and] at h; exact h⟩
            case measure => simp [intOf] <;> omega
          | true =>
            have HL : Hid (ch.toNat < 48 → digB ch = false) := fun h => by unfold digB; rw [decide_eq_false (by omega)]; rfl
            have HH : Hid (57 < ch.toNat → digB ch = false) := fun h => by unfold digB; rw [decide_eq_false (p := ch.toNat ≤ 57) (by omega), Bool.and_false]
            have HM : Hid (¬ ch.toNat < 48 → ¬ 57 < ch.toNat → digB ch = true) := fun h h' => by unfold digB; rw [decide_eq_true (by omega), decide_eq_true (by omega)]; rfl
            by_cases h48 : ch.toNat < 48
            · have h48' : ¬ (48 : Int) ≤ (ch.toNat : Int) := by omega
              have h48d : decide ((48 : Int) ≤ (ch.toNat : Int)) = false := decide_eq_false h48'
              go_wp2_with (first | (at_builtin; refine wpList_append_one _ rfl (.tmp 48) (.tmp 54) 27 rfl 3 (.int .i64 0) 8 Tryd.underlying27 infoInt rfl dgv w2.heap.size a1 _ _ O rfl HO.out HOL.out ⟨wr.heap.size, 0, none⟩ 1 ch.toNat rfl HC.out rfl (by unfold maxLen; omega) (by omega) (by simp <;> omega) ?_; intro g' cap' w' hrow' hcap hgrow hg') | fail)
              have HR := Lib.hid (DigsIn.next (o := true) HV.out.1 HE.out HMK.out HB.out.1 HB.out.2 hrow' hcap hgrow hg')
              clear hrow' hgrow
              go_wp2_with fail
              go_roundw
              case rel => exact ⟨k, by omega, rfl, by have h := HR.out; rw [HL.out h48] at h; exact h⟩
              case measure => simp [intOf] <;> omega
            · have h48' : (48 : Int) ≤ (ch.toNat : Int) := by omega
              have h48d : decide ((48 : Int) ≤ (ch.toNat : Int)) = true := decide_eq_true h48'
              by_cases h57 : 57 < ch.toNat
              · have h57' : ¬ (ch.toNat : Int) ≤ 57 := by omega
                have h57d : decide ((ch.toNat : Int) ≤ 57) = false := decide_eq_false h57'
                go_wp2_with (first | (at_builtin; refine wpList_append_one _ rfl (.tmp 48) (.tmp 54) 27 rfl 3 (.int .i64 0) 8 Tryd.underlying27 infoInt rfl dgv w2.heap.size a1 _ _ O rfl HO.out HOL.out ⟨wr.heap.size, 0, none⟩ 1 ch.toNat rfl HC.out rfl (by unfold maxLen; omega) (by omega) (by simp <;> omega) ?_; intro g' cap' w' hrow' hcap hgrow hg') | fail)
                have HR := Lib.hid (DigsIn.next (o := true) HV.out.1 HE.out HMK.out HB.out.1 HB.out.2 hrow' hcap hgrow hg')
                clear hrow' hgrow
                go_wp2_with fail
                go_roundw
                case rel => exact ⟨k, by omega, rfl, by have h := HR.out; rw [HH.out h57] at h; exact h⟩
                case measure => simp [intOf] <;> omega
              · have h57' : (ch.toNat : Int) ≤ 57 := by omega
                have h57d : decide ((ch.toNat : Int) ≤ 57) = true := decide_eq_true h57'
                go_wp2_with (first | (at_builtin; refine wpList_append_one _ rfl (.tmp 48) (.tmp 54) 27 rfl 3 (.int .i64 0) 8 Tryd.underlying27 infoInt rfl dgv w2.heap.size a1 _ _ O rfl HO.out HOL.out ⟨wr.heap.size, 0, none⟩ 1 ch.toNat rfl HC.out rfl (by unfold maxLen; omega) (by omega) (by simp <;> omega) ?_; intro g' cap' w' hrow' hcap hgrow hg') | fail)
                have HR := Lib.hid (DigsIn.next (o := true) HV.out.1 HE.out HMK.out HB.out.1 HB.out.2 hrow' hcap hgrow hg')
                clear hrow' hgrow
                go_wp2_with fail
                go_roundw
                case rel => exact ⟨k, by omega, rfl, by have h := HR.out; rw [HM.out h48 h57] at h; exact h⟩
                case measure => simp [intOf] <;> omega
    · have hany : ([(ax, xs.length, cx)].any fun t => decide (12 < t.2.1)) = true := by simp; omega
      rw [hany]
      clear hany
      go_wp2_with fail
      go_ret
      exact ⟨rfl, HB2.out⟩
end Go.Proofs.YtaiemcacpimcjaaDoor
