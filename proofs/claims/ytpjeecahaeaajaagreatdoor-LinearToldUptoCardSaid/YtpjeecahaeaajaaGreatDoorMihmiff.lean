/- By program out of: Zeros, Raise. -/
import Derived.Test.YtpjeecahaeaajaaGreatDoorMdegbog
import Derived.Test.YtpjeecahaeaajaaGreatDoorMeicodj
import Derived.Test.YtpjeecahaeaajaaGreatDoorMofdfac
set_option linter.unusedVariables false
set_option linter.unusedSimpArgs false
namespace Go.Proofs.YtpjeecahaeaajaaGreatDoor
open Go.RowKit Rep
theorem val_zero_take (b : Nat) (l : List Nat) (k : Nat) (h : ∀ j, j < k → l.getD j 0 = 0) : val b (l.take k) = 0 := by
  induction k generalizing l with
  | zero => simp [val]
  | succ k ih =>
    cases l with
    | nil => simp [val]
    | cons d l =>
      have h0 : d = 0 := by simpa using h 0 (by omega)
      have := ih l (fun j hj => by have := h (j + 1) (by omega); simpa using this)
      simp [List.take_succ_cons, val, h0, this]
theorem zeros_val {xs : List Nat} {k x c m : Nat} (hk : k < xs.length) (hz : ∀ j, j < k → xs.getD j 0 = 0) (hx : xs.getD k 0 = x) (he : x = 2 ^ c * (2 * m + 1)) (hc : c < 32) :
    ∃ m', V xs = 2 ^ (32 * k + c) * (2 * m' + 1) := by
  unfold V
  rw [val_take_drop _ k xs (by omega), val_zero_take _ _ _ hz, Nat.zero_add, List.drop_eq_getElem_cons hk, val]
  have hx' : xs[k] = x := by rw [← hx, List.getD_eq_getElem?_getD, List.getElem?_eq_getElem hk]; rfl
  generalize val 4294967296 (xs.drop (k + 1)) = r
  refine ⟨m + 2 ^ (31 - c) * r, ?_⟩
  have h32 : (4294967296 : Nat) = 2 ^ c * (2 * 2 ^ (31 - c)) := by
    rw [← Nat.pow_succ', ← Nat.pow_add, show c + (31 - c).succ = 32 from by omega]
  rw [hx', he]
  have e1 : (4294967296 : Nat) ^ k = 2 ^ (32 * k) := by rw [Nat.pow_mul]
  rw [e1, Nat.pow_add, Nat.mul_assoc]
  congr 1
  conv => lhs; rw [h32]
  rw [Nat.mul_assoc, ← Nat.mul_add]
  congr 1
  rw [Nat.mul_assoc, Nat.mul_add]
  omega
theorem coprime_two {y : Nat} (h : y % 2 = 1) (k : Nat) : Nat.Coprime (2 ^ k) y := by
  refine Nat.Coprime.pow_left k ?_
  unfold Nat.Coprime
  rw [Nat.gcd_rec, h]
  rfl
theorem gcd_step {x y x' k : Nat} (hy : y % 2 = 1) (hlt : y ≤ x) (he : x - y = 2 ^ k * x') : Nat.gcd x' y = Nat.gcd x y := by
  have h1 : Nat.gcd (x - y) y = Nat.gcd x y := Nat.gcd_sub_self_left hlt
  rw [← h1, he, Nat.Coprime.gcd_mul_left_cancel _ (coprime_two hy k)]
theorem gcd_start {a b n m : Nat} (hn : n % 2 = 1) (hm : m % 2 = 1) : Nat.gcd (2 ^ a * n) (2 ^ b * m) = Nat.gcd n m * 2 ^ min a b := by
  rcases Nat.le_total a b with h | h
  · obtain ⟨d, rfl⟩ := Nat.exists_eq_add_of_le h
    rw [Nat.pow_add, Nat.mul_assoc, Nat.gcd_mul_left, Nat.min_eq_left h, Nat.mul_comm]
    congr 1
    rw [Nat.gcd_comm, Nat.Coprime.gcd_mul_left_cancel _ (coprime_two hn d), Nat.gcd_comm]
  · obtain ⟨d, rfl⟩ := Nat.exists_eq_add_of_le h
    rw [Nat.pow_add, Nat.mul_assoc, Nat.gcd_mul_left, Nat.min_eq_right h, Nat.mul_comm]
    congr 1
    rw [Nat.Coprime.gcd_mul_left_cancel _ (coprime_two hm d)]
def Tab (w : World) : Prop := TabAt 3 Lib.deBruijn32tab w
theorem Tab.kept {w w' : World} (h : Tab w) (hb : Below w.heap.size w w') : Tab w' := fun j hj => by
  have h1 := h j hj
  rw [hb.cell (World.block_lt_of_cell? w _ h1)]; exact h1
theorem Tab.bench {w w' : World} {b m : Nat} {o : Bool} (h : Tab w) (hb : Bench w b m o) (hg : w.grownBy w' (some b)) : Tab w' := fun j hj => by
  have h1 := h j hj
  have h0 := h 0 (by decide)
  refine hg.cell h1 fun e => ?_
  cases e
  rw [hb.c0] at h0
  cases h0
def GivesZeros (n : Nat) (w : World) (e : Ending) (w' : World) : Prop := ∃ k m : Nat, e = .returned (.int .i64 (k : Int)) ∧ n = 2 ^ k * (2 * m + 1) ∧ w = w'
theorem ctz_form {x : Nat} (h0 : x ≠ 0) (hx : x < 4294967296) : ∃ m, x = 2 ^ Lib.ctz 32 x * (2 * m + 1) ∧ Lib.ctz 32 x < 32 := by
  obtain ⟨m, h1, h2⟩ := Lib.ctzFrom_spec 32 x (by omega) hx
  unfold Lib.ctz
  rw [if_neg h0]
  exact ⟨m, h1, h2⟩
def NoughtsTo (xs : List Nat) (k : Nat) : Prop := k < xs.length ∧ ∀ j, j < k → xs.getD j 0 = 0
theorem NoughtsTo.start {xs : List Nat} (h0 : V xs ≠ 0) : NoughtsTo xs 0 := by
  refine ⟨?_, fun j hj => by omega⟩
  rcases Nat.eq_zero_or_pos xs.length with h | h
  · rw [List.length_eq_zero_iff.1 h] at h0; exact absurd rfl h0
  · exact h
theorem NoughtsTo.step {xs : List Nat} {k : Nat} (h : NoughtsTo xs k) (hz : xs.getD k 0 = 0) (h0 : V xs ≠ 0) : NoughtsTo xs (k + 1) := by
  have h1 : ∀ j, j < k + 1 → xs.getD j 0 = 0 := fun j hj => by
    by_cases e : j = k
    · rw [e]; exact hz
    · exact h.2 j (by omega)
  refine ⟨?_, h1⟩
  rcases Nat.lt_or_ge (k + 1) xs.length with h2 | h2
  · exact h2
  · refine absurd ?_ h0
    have := val_zero_take 4294967296 xs (k + 1) h1
    rwa [List.take_of_length_le h2] at this
set_option maxRecDepth 100000 in
set_option maxHeartbeats 1000000 in
theorem zeros_any (a : Option Addr) (xs : List Nat) (c : Nat) (w : World) (hx : Lim xs) (rx : Reads w a (xs.map u32v)) (hT : Tab w) (h0 : V xs ≠ 0) (lx : xs.length ≤ 1073741824) :
    Calls Tryz.prog 108 #[.slice a xs.length c] w (GivesZeros (V xs) w) := by
  have HN := Lib.hid (NoughtsTo.start h0)
  have H0 := Lib.hid h0
  have HT := Lib.hid hT
  clear hT h0
  go_enter Tryz.func108, Tryz.ntmps108
  go_wp2_with fail
  go_loop [3] (fun i => ∃ k : Nat, i = .int .i64 k ∧ NoughtsTo xs k) (fun i => xs.length - (intOf i).toNat)
  case atStart => exact ⟨0, rfl, HN.out⟩
  case round =>
    obtain ⟨k, rfl, hk⟩ := hrel
    have hlt := hk.1
    have HK := Lib.hid hk
    clear hk HN
    obtain ⟨g, off, rfl, hg, hcell⟩ := rx.open' (by rw [List.length_map]; omega)
    have hck := hcell k _ (map_getElem? (xs := xs) hlt)
    have hxl : xs.getD k 0 < 4294967296 := hx.getD k (by omega)
    unfold u32v at hck
    have HX := Lib.hid (show xs.getD k 0 = xs.getD k 0 from rfl)
    clear hcell rx
    obtain ⟨x, hxe⟩ : ∃ x, x = xs.getD k 0 := ⟨_, rfl⟩
    rw [← hxe] at hck hxl
    have HXE := Lib.hid hxe
    clear hxe HX
    rcases Nat.eq_zero_or_pos x with hz | hz
    · subst hz
      have HK2 := Lib.hid (HK.out.step HXE.out.symm H0.out)
      have hlt2 := HK2.out.1
      go_wp2_with fail
      go_round
      case rel => exact ⟨k + 1, by go_num, HK2.out⟩
      case measure => simp [intOf]; omega
    · have hne : ((x : Int) == 0) = false := cast_beq_no (by omega)
      obtain ⟨m, hm, hc⟩ := ctz_form (x := x) (by omega) hxl
      obtain ⟨m', hm'⟩ := zeros_val hlt HK.out.2 HXE.out.symm hm hc
      have HM := Lib.hid hm'
      have HCT := Lib.hid (trailing_any x hxl w (fun _ => HT.out))
      generalize Lib.ctz 32 x = t at *
      clear hm hm'
      go_wp2_with fail
      refine HCT.out.mono ?_
      rintro e w' ⟨rfl, rfl⟩
      clear HCT
      go_wp2_with fail
      go_ret
      exact ⟨32 * k + t, m', congrArg (fun z => Ending.returned (.int .i64 z)) (by omega), HM.out, rfl⟩
end Go.Proofs.YtpjeecahaeaajaaGreatDoor

set_option linter.unusedVariables false
set_option linter.unusedSimpArgs false
namespace Go.Proofs.YtpjeecahaeaajaaGreatDoor
open Go.RowKit Rep
theorem GivesTake.pos {B g n : Nat} {w w' : World} {e : Ending} (h : GivesTake B (some ⟨g, 0, none⟩) n w e w') (hn : 0 < n) :
    ∃ c', e = .returned (.slice (some ⟨g, 0, none⟩) (L n).length c') ∧ Row 68 w' g c' ((L n).map u32v) ∧ c' ≤ maxLen ∧ w.grownBy w' (some g) := by
  obtain ⟨a', c', rfl, ho, ha, hg⟩ := h
  have hl : 0 < (L n).length := Nat.pos_of_ne_zero fun e => by rw [L_len_zero] at e; omega
  obtain ⟨g', rfl, hB, hr⟩ := ho.row hl
  rcases ha with ha | ha
  · cases ha
  · cases ha
    exact ⟨c', rfl, hr, ho.1, hg⟩
theorem len_of_pow {n k : Nat} (hk : 2 ^ k ≤ n) : k / 32 ≤ (L n).length := by
  have h1 : n < 4294967296 ^ (L n).length := (L_len n _).1 (Nat.le_refl _)
  have h2 : 2 ^ k < 2 ^ (32 * (L n).length) := by
    rw [Nat.pow_mul]
    exact Nat.lt_of_le_of_lt hk h1
  have h3 : k < 32 * (L n).length := (Nat.pow_lt_pow_iff_right (by omega)).1 h2
  omega
theorem shiftRight_own (B g c k n : Nat) (w : World) (hr : Row 68 w g c ((L n).map u32v)) (hg : B ≤ g) (hc : c ≤ maxLen) (hk : 2 ^ k ≤ n) (lx : (L n).length ≤ 1073741824) :
    Calls Tryz.prog 109 #[.slice (some ⟨g, 0, none⟩) (L n).length c, .int .i64 (k : Int)] w (GivesTake B (some ⟨g, 0, none⟩) (n / 2 ^ k) w) := by
  have h1 := len_of_pow hk
  have h2 := shiftRight_row B g c (k / 32) (k % 32) (L n) w (L_lim n) hg hc hr lx (Nat.mod_lt _ (by omega)) h1
  rw [V_L, show 32 * (k / 32) + k % 32 = k from by omega] at h2
  exact h2
theorem val_raise (p s n : Nat) (Q : List Nat) (hQ : V Q = n * 2 ^ s) : V (List.replicate p 0 ++ Q) = n * 2 ^ (32 * p + s) := by
  unfold V at *
  rw [val_append, val_zeros, Nat.zero_add, List.length_replicate, hQ, Nat.pow_add, Nat.pow_mul]
  rw [show (2 : Nat) ^ 32 = 4294967296 from rfl]
  ac_rfl
set_option maxRecDepth 100000 in
set_option maxHeartbeats 1000000 in
theorem raise_any (a : Option Addr) (c n b : Nat) (w : World) (h : NumAt w a c n) (lx : (L n).length ≤ 16777216) (hb : b ≤ 536870912) :
    Calls Tryz.prog 110 #[.slice a (L n).length c, .int .i64 (b : Int)] w (GivesNew (n * 2 ^ b) w) := by
  obtain ⟨p, s, hps, hs⟩ : ∃ p s, b = 32 * p + s ∧ s < 32 := ⟨b / 32, b % 32, by omega, Nat.mod_lt _ (by omega)⟩
  have d1 : (b : Int) / 32 = (p : Int) := by omega
  have d2 : (b : Int) % 32 = (s : Int) := by omega
  have hp : p ≤ 16777216 := by omega
  have hmk := make_run (P := Tryz.prog) Tryz.underlying23 Tryz.info48 (p : Int) (p : Int) p p rfl rfl (Nat.le_refl _) (by omega) (by unfold maxLen; omega)
  have hb0 : 0 ≤ (b : Int) := by omega
  have hb1 : (b : Int) ≤ 536870912 := by omega
  have HPS := Lib.hid hps
  have hcap := h.2.2
  have hle := h.2.1
  have hrow := Row.zrow (E := 68) .u32 w p
  have HS := Lib.hid (shiftLeft_any a (L n) c s (w.alloc (.cells (zrow .u32 p) 68)) (L_lim n) (h.1.kept ((Below.refl _ _).alloc (Nat.le_refl _) _)) (by omega) hs)
  clear h hps
  generalize (b : Int) = by' at d1 d2 hb0 hb1 ⊢
  go_enter Tryz.func110, Tryz.ntmps110
  go_wp2_with fail
  refine HS.out.mono ?_
  rintro e w2 ⟨Q, rfl, q1, q2, q3, q4, q5⟩
  rw [V_L] at q4
  have hrow2 := hrow.kept q5
  rw [World.size_alloc] at q1 q5
  have HQ := Lib.hid (And.intro q2 (And.intro q3 q4))
  have HB := Lib.hid (((Below.refl w.heap.size w).alloc (Nat.le_refl _) (.cells (zrow .u32 p) 68)).trans (q5.mono (by omega)))
  have hQr := q1.reads0
  have HC : Hid (∀ u ∈ Q.map u32v, u.oneCell' = true) := Lib.hid (by
    intro u hu
    obtain ⟨x, _, rfl⟩ := List.mem_map.1 hu
    rfl)
  clear hrow HS hmk d1 d2 q1 q3 q4 q5
  go_wp2_with (first | (at_builtin; refine wpList_append_row _ rfl (.tmp 9) (.tmp 13) 23 rfl 68 (.int .u32 0) 4 Tryz.underlying23 Tryz.info48 rfl w.heap.size p p (List.replicate p (Value.int .u32 0)) rfl hrow2 (by simp) (by unfold maxLen; omega) (some ⟨w.heap.size + 1, 0, none⟩) ((L n).length + 1) ((L n).length + 1) (Q.map u32v) rfl (by simp [HQ.out.1]) hQr HC.out (by unfold maxLen; omega) (by omega) ?_; intro g' cap' w3 hr3 hcap3 hg3 hgg) | fail)
  have hl3 : (List.replicate p 0 ++ Q).length = p + ((L n).length + 1) := by rw [List.length_append, List.length_replicate, HQ.out.1]
  have hr3' : Row 68 w3 g' cap' ((List.replicate p 0 ++ Q).map u32v) := by
    rw [List.map_append, List.map_replicate]; exact hr3
  have HT := Lib.hid (trim_num (some ⟨g', 0, none⟩) (List.replicate p 0 ++ Q) cap' w3 (Rep.Dig.append (Rep.Dig.replicate _ _ _ (by omega)) HQ.out.2.1) hr3'.reads0 (by have := hr3'.le; simpa using this) hcap3)
  have HB3 := Lib.hid (HB.out.grown hg3 HB.out.size (fun k hk => by cases hk; exact Nat.le_refl _))
  have HV := Lib.hid ((val_raise p s n Q HQ.out.2.2).trans (by rw [← HPS.out]))
  rw [hl3] at HT
  clear hr3 hr3' hg3 hrow2 hQr hl3
  go_wp2_with fail
  refine HT.out.mono ?_
  rintro e w4 ⟨a4, c4, rfl, hn, rfl⟩
  rw [HV.out] at hn ⊢
  go_wp2_with fail
  go_ret
  exact ⟨a4, c4, rfl, hn, HB3.out⟩
end Go.Proofs.YtpjeecahaeaajaaGreatDoor
