/-
  The document's Limbs and Text.
-/
import Derived.Test.YtaiemcacpimcjaaDoorRefA
set_option linter.unusedVariables false
set_option linter.unusedSimpArgs false
namespace Go.Proofs.YtaiemcacpimcjaaDoor
open Go.RowKit Rep

theorem val_drop (ds : List Nat) (k : Nat) (h : k < ds.length) : val 10 (ds.drop k) = 10 * val 10 (ds.drop (k + 1)) + ds.getD k 0 := by
  rw [List.drop_eq_getElem_cons h, val_cons, getD_lt h, Nat.add_comm]
theorem L_val_len (ds : List Nat) (hd : Dig 10 ds) : (L (val 10 ds)).length ≤ ds.length :=
  (L_len _ _).2 (Nat.lt_of_lt_of_le (val_lt hd) (Nat.pow_le_pow_left (by omega) _))

theorem OwnR.blk_ge {E : TypeId} {f : Nat → Value} {B : Nat} {w : World} {a : Option Addr} {c : Nat} {xs : List Nat} (h : OwnR E f B w a c xs) {g : Nat} (hg : blk a = some g) : B ≤ g := by
  obtain ⟨_, ⟨rfl, _⟩ | ⟨g', rfl, hB, _⟩⟩ := h
  · cases hg
  · cases hg; exact hB

/-- The limbs of the digits from k on are there. -/
def LimbsIn (w : World) (ds : List Nat) (k : Nat) (ov : Value) (wr : World) : Prop :=
  ∃ (a : Option Addr) (c : Nat), ov = .slice a (L (val 10 (ds.drop k))).length c ∧ Own w.heap.size wr a c (L (val 10 (ds.drop k))) ∧ Below w.heap.size w wr

set_option maxRecDepth 100000 in
set_option maxHeartbeats 2000000 in
theorem Limbs_any (a : Option Addr) (c : Nat) (ds : List Nat) (w : World) (hr : Reads w a (ds.map i64v)) (hd : Dig 10 ds) (hl : ds.length ≤ 1073741824) :
    Calls Tryd.prog 24 #[.slice a ds.length c] w (GivesOwn (L (val 10 ds)) w) := by
  have HS : LimbsIn w ds ds.length (.slice (some ⟨w.heap.size, 0, none⟩) 0 0) (w.alloc (.cells #[] 48)) := by
    refine ⟨some ⟨w.heap.size, 0, none⟩, 0, by simp [val, L_zero], ⟨by simp [maxLen], .inr ⟨w.heap.size, rfl, Nat.le_refl _, ?_⟩⟩, (Below.refl _ _).alloc (Nat.le_refl _) _⟩
    rw [List.drop_length, show val 10 [] = 0 from rfl, L_zero]
    exact Row.new (E := 48) w #[]
  go_enter Tryd.func24, Tryd.ntmps24
  go_wp2_with fail
  go_loopw [3, 4] (fun ov iv wr => ∃ k : Nat, k ≤ ds.length ∧ iv = .int .i64 ((k : Int) - 1) ∧ LimbsIn w ds k ov wr) (fun _ iv _ => (intOf iv + 1).toNat)
  case atStart => exact ⟨ds.length, Nat.le_refl _, rfl, HS⟩
  case round =>
    obtain ⟨k, hk, rfl, a1, c1, rfl, ho, hB⟩ := hrel
    clear HS
    cases k with
    | zero =>
      rw [List.drop_zero] at ho ⊢
      go_wp2_with fail
      go_ret
      exact ⟨a1, c1, rfl, ho, hB⟩
    | succ k =>
      have hr' := hr.kept hB
      obtain ⟨g, off, rfl, hg, hcell⟩ := hr'.open' (by rw [List.length_map]; omega)
      have hck := hcell k _ (map_getElem? (xs := ds) (by omega))
      have HV := Lib.hid (val_drop ds k (by omega))
      have hll : (L (val 10 (ds.drop (k + 1)))).length ≤ ds.length := by
        have := L_val_len (ds.drop (k + 1)) (hd.drop _)
        rw [List.length_drop] at this
        omega
      have hdl : ds.getD k 0 < 10 := hd.getD k (by omega)
      clear hcell hr'
      unfold i64v at hck
      generalize ds.getD k 0 = d at *
      generalize hN : val 10 (ds.drop (k + 1)) = N at *
      clear hN
      rw [show (((k + 1 : Nat) : Int) - 1) = (k : Int) from by omega]
      have HG : GrowIn wr 48 u32v 4294967296 10 d w.heap.size a1 c1 (L N) 0 d wr := GrowIn.start ho.r (L_lim N) hdl
      have HB := Lib.hid hB
      clear ho hB
      go_wp2_with fail
      obtain ⟨wo, rfl⟩ : ∃ wo : World, wo = wr := ⟨_, rfl⟩
      go_loopw [5, 6] (fun cv jv wr => ∃ j cy : Nat, j ≤ (L N).length ∧ jv = .int .i64 j ∧ cv = .int .u64 cy ∧ cy < 10 ∧ GrowIn wo 48 u32v 4294967296 10 d w.heap.size a1 c1 (L N) j cy wr) (fun _ jv _ => (L N).length - (intOf jv).toNat)
      case atStart => exact ⟨0, d, by omega, rfl, rfl, hdl, HG⟩
      case round =>
        obtain ⟨j, cy, hj, rfl, rfl, hcy, hin⟩ := hrel
        clear HG
        by_cases hlt : j < (L N).length
        · obtain ⟨g1, x, rfl, hle, hx, hcx, hfr, _, hb, hnext⟩ := hin.step hlt (by omega)
          have hnx := hnext (x * 10 + cy) ((x * 10 + cy) / 4294967296) ((x * 10 + cy) % 4294967296) rfl rfl rfl
          have HN := Lib.hid hnx
          clear hnext hin hnx
          unfold u32v at hcx
          go_wp2_with fail
          go_roundw
          case rel => exact ⟨j + 1, (x * 10 + cy) / 4294967296, by omega, by go_num, by go_num, by omega, HN.out⟩
          case measure => simp [intOf] <;> omega
        · obtain rfl : j = (L N).length := by omega
          obtain ⟨Q, hQ, hQl, hQe, hct', hg⟩ := hin.done (by omega) (L_lim N) (rep_top (by omega) N)
          rw [show val 4294967296 (L N) = N from V_L N] at hQe
          clear hin
          have hB2 : Below w.heap.size w wr := HB.out.grown hg HB.out.size (fun k hk => hQ.blk_ge hk)
          rcases Nat.eq_zero_or_pos cy with h0 | h0
          · subst h0
            rw [rep_zero, List.append_nil] at hQe
            have HQ := Lib.hid (And.intro hQ (And.intro hB2 hQe))
            clear hQ hg hQe hB2
            go_wp2_with fail
            go_roundw
            case rel =>
              refine ⟨k, by omega, rfl, a1, c1, ?_, ?_, HQ.out.2.1⟩
              · rw [HV.out, ← hQl, HQ.out.2.2]; rfl
              · rw [HV.out]
                have h := HQ.out.1.own
                rw [HQ.out.2.2] at h
                exact h
            case measure => simp [intOf] <;> omega
          · have hc0 : (0 : Int) < (cy : Int) := by omega
            have hQ1 := hQ.kept ((Below.refl wr.heap.size wr).alloc (Nat.le_refl _) (.cells #[.int .u32 (cy : Int)] 48))
            have hcell : (wr.alloc (.cells #[.int .u32 (cy : Int)] 48)).cell? ⟨wr.heap.size, 0, none⟩ = some (u32v cy) := (Row.new (E := 48) wr #[.int .u32 (cy : Int)]).cell 0 _ rfl
            have HQ := Lib.hid (And.intro hQe (And.intro hB2 (fun g => hQ.blk_ge (g := g))))
            have hsz : w.heap.size ≤ wr.heap.size := hB2.size
            clear hQ hg hQe hB2
            go_wp2_with (first | (at_builtin; refine wpList_append_one _ rfl (.tmp 45) (.tmp 48) 23 rfl 48 (.int .u32 0) 4 Tryd.underlying23 Tryd.info48 rfl u32v w.heap.size a1 _ _ Q rfl hQ1 hQl ⟨wr.heap.size, 0, none⟩ 1 cy rfl hcell rfl (by unfold maxLen; omega) (by omega) (by simp <;> omega) ?_; intro g' cap' w' hrow' hcap hgrow hg') | fail)
            have e : Q ++ [cy] = L (10 * N + d) := by rw [← Rep.rep_small (b := 4294967296) (by omega) (by omega) (by omega)]; exact HQ.out.1
            have hB3 : Below w.heap.size w w' := (HQ.out.2.1.alloc HQ.out.2.1.size _).grown hgrow (by simp <;> omega) (fun k hk => HQ.out.2.2 k hk)
            rw [e] at hrow'
            have hlen : (L N).length + 1 = (L (10 * N + d)).length := by rw [← e, List.length_append, hQl]; rfl
            have HR := Lib.hid (And.intro hrow' (And.intro hB3 hlen))
            clear hrow' hB3 hlen hgrow hQ1 hcell e
            go_wp2_with fail
            go_roundw
            case rel =>
              refine ⟨k, by omega, rfl, some ⟨g', 0, none⟩, cap', ?_, ?_, HR.out.2.1⟩
              · rw [HV.out, ← HR.out.2.2]
              · rw [HV.out]
                exact ⟨hcap, .inr ⟨g', rfl, hg', HR.out.1⟩⟩
            case measure => simp [intOf] <;> omega

/-- The text of digits, the least one first. -/
def txtD (ds : List Nat) : List UInt8 := if ds = [] then [48] else ds.reverse.map (fun d => UInt8.ofNat (48 + d))
theorem txtD_D (n : Nat) : txtD (D n) = txt n := by
  unfold txtD txt
  by_cases h : n = 0
  · subst h; rfl
  · have hn : D n ≠ [] := fun e => h ((rep_eq_nil (b := 10) (by omega)).1 e)
    rw [if_neg h, if_neg hn]

/-- The text of the digits from k on is there. -/
def TextDIn (w : World) (ds : List Nat) (k : Nat) (ov : Value) (wr : World) : Prop :=
  ∃ (a : Option Addr) (c : Nat), ov = .slice a (ds.length - k) c ∧ OwnR 5 u8v w.heap.size wr a c ((ds.drop k).reverse.map (48 + ·)) ∧ Below w.heap.size w wr

theorem textD_next (ds : List Nat) (k : Nat) (h : k < ds.length) : (ds.drop k).reverse.map (48 + ·) = (ds.drop (k + 1)).reverse.map (48 + ·) ++ [48 + ds.getD k 0] := by
  rw [List.drop_eq_getElem_cons h, List.reverse_cons, List.map_append, getD_lt h]; rfl

set_option maxRecDepth 100000 in
set_option maxHeartbeats 2000000 in
theorem TextD_any (a : Option Addr) (c : Nat) (ds : List Nat) (w : World) (hr : Reads w a (ds.map i64v)) (hd : Dig 10 ds) (hl : ds.length ≤ 1073741824) :
    Calls Tryd.prog 28 #[.slice a ds.length c] w fun e w' => e = .returned (.string (strOf (txtD ds))) ∧ Below w.heap.size w w' := by
  have HS : TextDIn w ds ds.length (.slice (some ⟨w.heap.size, 0, none⟩) 0 0) (w.alloc (.cells #[] 5)) := by
    refine ⟨some ⟨w.heap.size, 0, none⟩, 0, by simp, ⟨by simp [maxLen], .inr ⟨w.heap.size, rfl, Nat.le_refl _, ?_⟩⟩, (Below.refl _ _).alloc (Nat.le_refl _) _⟩
    rw [List.drop_length]
    exact Row.new (E := 5) w #[]
  go_enter Tryd.func28, Tryd.ntmps28
  go_wp2_with fail
  go_loopw [3, 4] (fun ov iv wr => ∃ k : Nat, k ≤ ds.length ∧ iv = .int .i64 ((k : Int) - 1) ∧ TextDIn w ds k ov wr) (fun _ iv _ => (intOf iv + 1).toNat)
  case atStart => exact ⟨ds.length, Nat.le_refl _, rfl, HS⟩
  case round =>
    obtain ⟨k, hk, rfl, a1, c1, rfl, ho, hB⟩ := hrel
    clear HS
    cases k with
    | zero =>
      rw [List.drop_zero] at ho
      rw [Nat.sub_zero]
      by_cases h0 : ds.length = 0
      · have hz : ((ds.length : Int) == 0) = true := by rw [h0]; rfl
        have HN : Hid (txtD ds = [48]) := Lib.hid (by rw [List.length_eq_zero_iff.1 h0]; rfl)
        clear ho
        go_wp2_with fail
        go_ret
        exact ⟨by rw [HN.out]; rfl, hB⟩
      · have hz : ((ds.length : Int) == 0) = false := cast_beq_no h0
        obtain ⟨g, rfl, hg, hrow⟩ := ho.row (by simp; omega)
        have hcv := run_convert_bytes_arg (P := Tryd.prog) wr 60 5 Tryd.underlying60 Tryd.underlying5 g 0 ds.length c1 ((ds.reverse.map (48 + ·)).map Int.ofNat) (by simp) (fun i hi => by
          have h := hrow.cell i _ (map_getElem? (xs := ds.reverse.map (48 + ·)) (by simpa using hi))
          rw [Nat.zero_add, h]
          simp only [u8v, List.getD_eq_getElem?_getD, List.getElem?_map]
          cases ds.reverse[i]? <;> rfl) 9 Tryd.underlying9
        have HN : Hid (strOfNums ((ds.reverse.map (48 + ·)).map Int.ofNat) = strOf (txtD ds)) := Lib.hid (by
          unfold txtD
          rw [if_neg (fun e => h0 (by rw [e]; rfl))]
          unfold strOfNums strOf
          rw [List.map_map, List.map_map]
          rfl)
        clear ho hrow
        generalize (ds.reverse.map (48 + ·)).map Int.ofNat = M at *
        go_wp2_with fail
        go_ret
        exact ⟨by rw [← HN.out]; rfl, hB⟩
    | succ k =>
      have hr' := hr.kept hB
      obtain ⟨g, off, rfl, hg, hcell⟩ := hr'.open' (by rw [List.length_map]; omega)
      have hck := hcell k _ (map_getElem? (xs := ds) (by omega))
      have HV := Lib.hid (textD_next ds k (by omega))
      have hdl : ds.getD k 0 < 10 := hd.getD k (by omega)
      clear hcell hr'
      unfold i64v at hck
      generalize ds.getD k 0 = d at *
      rw [show (((k + 1 : Nat) : Int) - 1) = (k : Int) from by omega]
      obtain ⟨n, hn⟩ : ∃ n, n = ds.length - (k + 1) := ⟨_, rfl⟩
      have hol : ((ds.drop (k + 1)).reverse.map (48 + ·)).length = n := by simp [hn]
      rw [← hn]
      have ho1 := ho.kept ((Below.refl wr.heap.size wr).alloc (Nat.le_refl _) (.cells #[.int .u8 ((48 + d : Nat) : Int)] 5))
      have hnb : n ≤ 1073741824 := by omega
      have hnk : ds.length - k = n + 1 := by omega
      generalize hO : (ds.drop (k + 1)).reverse.map (48 + ·) = O at *
      clear hO
      have hcell : (wr.alloc (.cells #[.int .u8 ((48 + d : Nat) : Int)] 5)).cell? ⟨wr.heap.size, 0, none⟩ = some (u8v (48 + d)) := (Row.new (E := 5) wr #[.int .u8 ((48 + d : Nat) : Int)]).cell 0 _ rfl
      have HB := Lib.hid (And.intro hB (fun g => ho.blk_ge (g := g)))
      have hsz : w.heap.size ≤ wr.heap.size := hB.size
      have hk2 : (k : Int) ≤ 1073741824 := by omega
      have hcast : ((48 + d : Nat) : Int) = 48 + (d : Int) := by omega
      clear ho hB hn
      rw [hcast] at hcell ho1
      have HC := Lib.hid hcell
      have HO := Lib.hid ho1
      clear hcast hcell ho1
      go_wp2_with (first | (at_builtin; refine wpList_append_one _ rfl (.tmp 13) (.tmp 20) 60 rfl 5 (.int .u8 0) 1 Tryd.underlying60 Tryd.info5 rfl u8v w.heap.size a1 _ _ O rfl HO.out hol ⟨wr.heap.size, 0, none⟩ 1 (48 + d) rfl HC.out rfl (by unfold maxLen; omega) (by omega) (by simp <;> omega) ?_; intro g' cap' w' hrow' hcap hgrow hg') | fail)
      have hB3 : Below w.heap.size w w' := (HB.out.1.alloc HB.out.1.size _).grown hgrow (by simp <;> omega) (fun k hk => HB.out.2 k hk)
      have HR := Lib.hid (And.intro hrow' hB3)
      clear hrow' hB3 hgrow
      go_wp2_with fail
      go_roundw
      case rel =>
        refine ⟨k, by omega, rfl, some ⟨g', 0, none⟩, cap', ?_, ?_, HR.out.2⟩
        · rw [hnk]
        · rw [HV.out]
          exact ⟨hcap, .inr ⟨g', rfl, hg', HR.out.1⟩⟩
      case measure => simp [intOf] <;> omega
end Go.Proofs.YtaiemcacpimcjaaDoor
