/-
  nat.raise; nat.shiftRight of a number of one's own.
-/
import Derived.Test.YtaiemcacpimcjaaDoorZeros
import Derived.Test.YtaiemcacpimcjaaDoorShl
import Derived.Test.YtaiemcacpimcjaaDoorShr
set_option linter.unusedVariables false
set_option linter.unusedSimpArgs false
namespace Go.Proofs.YtaiemcacpimcjaaDoor
open Go.RowKit Rep

theorem GivesTake.pos {B g n : Nat} {w w' : World} {e : Ending} (h : GivesTake B (some ⟨g, 0, none⟩) n w e w') (hn : 0 < n) :
    ∃ c', e = .returned (.slice (some ⟨g, 0, none⟩) (L n).length c') ∧ Row 48 w' g c' ((L n).map u32v) ∧ c' ≤ maxLen ∧ w.grownBy w' (some g) := by
  obtain ⟨a', c', rfl, ho, ha, hg⟩ := h
  have hl : 0 < (L n).length := Nat.pos_of_ne_zero fun e => by rw [L_len_zero] at e; omega
  obtain ⟨g', rfl, hB, hr⟩ := ho.row hl
  rcases ha with ha | ha
  · cases ha
  · cases ha
    exact ⟨c', rfl, hr, ho.1, hg⟩

theorem len_of_pow {n k : Nat} (hk : 2 ^ k ≤ n) : k / 32 ≤ (L n).length := by
  have h1 : n < 4294967296 ^ (L n).length := (L_len n _).1 (Nat.le_refl _)
  have h2 : 2 ^ k < 2 ^ (32 * (L n).length) := by
    rw [Nat.pow_mul]
    exact Nat.lt_of_le_of_lt hk h1
  have h3 : k < 32 * (L n).length := (Nat.pow_lt_pow_iff_right (by omega)).1 h2
  omega

theorem shiftRight_own (B g c k n : Nat) (w : World) (hr : Row 48 w g c ((L n).map u32v)) (hg : B ≤ g) (hc : c ≤ maxLen) (hk : 2 ^ k ≤ n) (lx : (L n).length ≤ 1073741824) :
    Calls Tryd.prog 65 #[.slice (some ⟨g, 0, none⟩) (L n).length c, .int .i64 (k : Int)] w (GivesTake B (some ⟨g, 0, none⟩) (n / 2 ^ k) w) := by
  have h1 := len_of_pow hk
  have h2 := shiftRight_row B g c (k / 32) (k % 32) (L n) w (L_lim n) hg hc hr lx (Nat.mod_lt _ (by omega)) h1
  rw [V_L, show 32 * (k / 32) + k % 32 = k from by omega] at h2
  exact h2

theorem val_raise (p s n : Nat) (Q : List Nat) (hQ : V Q = n * 2 ^ s) : V (List.replicate p 0 ++ Q) = n * 2 ^ (32 * p + s) := by
  unfold V at *
  rw [val_append, val_zeros, Nat.zero_add, List.length_replicate, hQ, Nat.pow_add, Nat.pow_mul]
  rw [show (2 : Nat) ^ 32 = 4294967296 from rfl]
  ac_rfl

set_option maxRecDepth 100000 in
set_option maxHeartbeats 1000000 in
theorem raise_any (a : Option Addr) (c n b : Nat) (w : World) (h : NumAt w a c n) (lx : (L n).length ≤ 16777216) (hb : b ≤ 536870912) :
    Calls Tryd.prog 66 #[.slice a (L n).length c, .int .i64 (b : Int)] w (GivesNew (n * 2 ^ b) w) := by
  obtain ⟨p, s, hps, hs⟩ : ∃ p s, b = 32 * p + s ∧ s < 32 := ⟨b / 32, b % 32, by omega, Nat.mod_lt _ (by omega)⟩
  have d1 : (b : Int) / 32 = (p : Int) := by omega
  have d2 : (b : Int) % 32 = (s : Int) := by omega
  have hp : p ≤ 16777216 := by omega
  have hmk := make_run (P := Tryd.prog) Tryd.underlying23 Tryd.info48 (p : Int) (p : Int) p p rfl rfl (Nat.le_refl _) (by omega) (by unfold maxLen; omega)
  have hb0 : 0 ≤ (b : Int) := by omega
  have hb1 : (b : Int) ≤ 536870912 := by omega
  have HPS := Lib.hid hps
  have hcap := h.2.2
  have hle := h.2.1
  have hrow := Row.zrow (E := 48) .u32 w p
  have HS := Lib.hid (shiftLeft_any a (L n) c s (w.alloc (.cells (zrow .u32 p) 48)) (L_lim n) (h.1.kept ((Below.refl _ _).alloc (Nat.le_refl _) _)) (by omega) hs)
  clear h hps
  generalize (b : Int) = by' at d1 d2 hb0 hb1 ⊢
  go_enter Tryd.func66, Tryd.ntmps66
  go_wp2_with fail
  refine HS.out.mono ?_
  rintro e w2 ⟨Q, rfl, q1, q2, q3, q4, q5⟩
  rw [V_L] at q4
  have hrow2 := hrow.kept q5
  rw [World.size_alloc] at q1 q5
  have HQ := Lib.hid (And.intro q2 (And.intro q3 q4))
  have HB := Lib.hid (((Below.refl w.heap.size w).alloc (Nat.le_refl _) (.cells (zrow .u32 p) 48)).trans (q5.mono (by omega)))
  have hQr := q1.reads0
  have HC : Hid (∀ u ∈ Q.map u32v, u.oneCell' = true) := Lib.hid (by
    intro u hu
    obtain ⟨x, _, rfl⟩ := List.mem_map.1 hu
    rfl)
  clear hrow HS hmk d1 d2 q1 q3 q4 q5
  go_wp2_with (first | (at_builtin; refine wpList_append_row _ rfl (.tmp 9) (.tmp 13) 23 rfl 48 (.int .u32 0) 4 Tryd.underlying23 Tryd.info48 rfl w.heap.size p p (List.replicate p (Value.int .u32 0)) rfl hrow2 (by simp) (by unfold maxLen; omega) (some ⟨w.heap.size + 1, 0, none⟩) ((L n).length + 1) ((L n).length + 1) (Q.map u32v) rfl (by simp [HQ.out.1]) hQr HC.out (by unfold maxLen; omega) (by omega) ?_; intro g' cap' w3 hr3 hcap3 hg3 hgg) | fail)
  have hl3 : (List.replicate p 0 ++ Q).length = p + ((L n).length + 1) := by rw [List.length_append, List.length_replicate, HQ.out.1]
  have hr3' : Row 48 w3 g' cap' ((List.replicate p 0 ++ Q).map u32v) := by
    rw [List.map_append, List.map_replicate]; exact hr3
  have HT := Lib.hid (trim_num (some ⟨g', 0, none⟩) (List.replicate p 0 ++ Q) cap' w3 (Rep.Dig.append (Rep.Dig.replicate _ _ _ (by omega)) HQ.out.2.1) hr3'.reads0 (by have := hr3'.le; simpa using this) hcap3)
  have HB3 := Lib.hid (HB.out.grown hg3 HB.out.size (fun k hk => by cases hk; exact Nat.le_refl _))
  have HV := Lib.hid ((val_raise p s n Q HQ.out.2.2).trans (by rw [← HPS.out]))
  rw [hl3] at HT
  clear hr3 hr3' hg3 hrow2 hQr hl3
  go_wp2_with fail
  refine HT.out.mono ?_
  rintro e w4 ⟨a4, c4, rfl, hn, rfl⟩
  rw [HV.out] at hn ⊢
  go_wp2_with fail
  go_ret
  exact ⟨a4, c4, rfl, hn, HB3.out⟩
end Go.Proofs.YtaiemcacpimcjaaDoor
