/-
  The document's product of digits.
-/
import Derived.Test.YtaiemcacpimcjaaDoorDigAdd
set_option linter.unusedVariables false
set_option linter.unusedSimpArgs false
namespace Go.Proofs.YtaiemcacpimcjaaDoor
open Go.RowKit Rep

/-- Behind i digits of the first, the product so far. -/
def MulDOut (w : World) (xs ys : List Nat) (i : Nat) (wr : World) : Prop :=
  ∃ Q : List Nat, Row 3 wr w.heap.size (xs.length + ys.length + 1) (Q.map i64v) ∧ Q.length = xs.length + ys.length + 1 ∧ Dig 10 Q ∧ val 10 Q = val 10 (xs.take i) * val 10 ys ∧ (∀ j, i + ys.length ≤ j → Q.getD j 0 = 0) ∧ Below w.heap.size w wr
/-- Within such a digit, behind k of the second. -/
def MulDIn (w : World) (xs ys : List Nat) (i k c : Nat) (wr : World) : Prop :=
  ∃ Q : List Nat, Row 3 wr w.heap.size (xs.length + ys.length + 1) (Q.map i64v) ∧ Q.length = xs.length + ys.length + 1 ∧ Dig 10 Q ∧ val 10 Q + 10 ^ (i + k) * c = val 10 (xs.take i) * val 10 ys + 10 ^ i * (xs.getD i 0 * val 10 (ys.take k)) ∧
    (∀ j, i + max k ys.length ≤ j → Q.getD j 0 = 0) ∧ c ≤ 9 ∧ (k ≤ ys.length ∨ (k = ys.length + 1 ∧ c = 0)) ∧ Below w.heap.size w wr

theorem MulDOut.start (w : World) (xs ys : List Nat) : MulDOut w xs ys 0 (w.alloc (.cells (zrow .i64 (xs.length + ys.length + 1)) 3)) := by
  refine ⟨List.replicate (xs.length + ys.length + 1) 0, ?_, by simp, Dig.replicate _ _ _ (by omega), by simp [val_zeros, val], fun j _ => ?_, (Below.refl _ _).alloc (Nat.le_refl _) _⟩
  · have := Row.zrow (E := 3) .i64 w (xs.length + ys.length + 1)
    rw [List.map_replicate]
    exact this
  · simp [List.getD_eq_getElem?_getD, List.getElem?_replicate]; split <;> rfl
theorem MulDOut.enter {w wr : World} {xs ys : List Nat} {i : Nat} (h : MulDOut w xs ys i wr) : MulDIn w xs ys i 0 0 wr := by
  obtain ⟨Q, h1, h2, h3, h4, h5, h6⟩ := h
  exact ⟨Q, h1, h2, h3, by simp [val, h4], fun j hj => h5 j (by omega), by omega, .inl (by omega), h6⟩
theorem MulDIn.leave {w wr : World} {xs ys : List Nat} {i k : Nat} (h : MulDIn w xs ys i k 0 wr) (hk : ys.length ≤ k) : MulDOut w xs ys (i + 1) wr := by
  obtain ⟨Q, h1, h2, h3, h4, h5, h6, h7, h8⟩ := h
  refine ⟨Q, h1, h2, h3, ?_, fun j hj => h5 j (by omega), h8⟩
  rw [List.take_of_length_le hk, Nat.mul_zero, Nat.add_zero] at h4
  rw [h4, val_take_succ', Nat.add_mul, Nat.mul_assoc]
theorem MulDIn.step {w wr : World} {xs ys : List Nat} {i k c : Nat} (h : MulDIn w xs ys i k c wr) (hy : Dig 10 ys) (hx : Dig 10 xs) (hi : i < xs.length) (hgo : k < ys.length ∨ 0 < c) :
    ∃ q : Nat, q < 10 ∧ c ≤ 9 ∧ k ≤ ys.length ∧ wr.cell? ⟨w.heap.size, i + k, none⟩ = some (.int .i64 (q : Int)) ∧ wr.frozen? ⟨w.heap.size, i + k, none⟩ = false ∧
      ∀ T d c' : Nat, T = q + c + xs.getD i 0 * ys.getD k 0 → d = T % 10 → c' = T / 10 → MulDIn w xs ys i (k + 1) c' (wr.setCell ⟨w.heap.size, i + k, none⟩ (.int .i64 (d : Int))) := by
  obtain ⟨Q, h1, h2, h3, h4, h5, h6, h7, h8⟩ := h
  have hk : k ≤ ys.length := by omega
  have hjl : i + k < Q.length := by omega
  refine ⟨Q.getD (i + k) 0, h3.getD _ (by omega), h6, hk, h1.cell _ _ (map_getElem? hjl), h1.frozen _, fun T d c' hT hd hc => ?_⟩
  have hq9 : Q.getD (i + k) 0 ≤ 9 := by have := h3.getD (i + k) (by omega); omega
  have hp : xs.getD i 0 * ys.getD k 0 ≤ 81 := by
    have a1 : xs.getD i 0 ≤ 9 := by have := hx.getD i (by omega); omega
    have a2 : ys.getD k 0 ≤ 9 := by have := hy.getD k (by omega); omega
    exact Nat.mul_le_mul a1 a2
  refine ⟨Q.set (i + k) d, ?_, by simpa using h2, h3.set _ _ (by omega), ?_, fun j hj => ?_, by omega, ?_, h8.setCell (by simp) _⟩
  · have := h1.set (i + k) (i64v d)
    rw [← List.map_set] at this
    exact this
  · have e1 := val_set 10 Q (i + k) d hjl
    rw [val_take_succ', show i + (k + 1) = i + k + 1 from rfl, Nat.pow_succ, Nat.mul_assoc (10 ^ (i + k))]
    have e2 : 10 ^ (i + k) * d + 10 ^ (i + k) * (10 * c') = 10 ^ (i + k) * T := by rw [← Nat.mul_add]; congr 1; omega
    have e3 : 10 ^ (i + k) * T = 10 ^ (i + k) * Q.getD (i + k) 0 + 10 ^ (i + k) * c + 10 ^ (i + k) * (xs.getD i 0 * ys.getD k 0) := by rw [hT, Nat.mul_add, Nat.mul_add]
    have e4 : 10 ^ (i + k) * (xs.getD i 0 * ys.getD k 0) = 10 ^ i * (xs.getD i 0 * (10 ^ k * ys.getD k 0)) := by rw [Nat.pow_add]; ac_rfl
    have e5 : 10 ^ i * (xs.getD i 0 * (val 10 (ys.take k) + 10 ^ k * ys.getD k 0)) = 10 ^ i * (xs.getD i 0 * val 10 (ys.take k)) + 10 ^ i * (xs.getD i 0 * (10 ^ k * ys.getD k 0)) := by rw [Nat.mul_add, Nat.mul_add]
    omega
  · rw [Rep.getD_set_ne (by omega)]
    exact h5 j (by omega)
  · rcases Nat.lt_or_ge k ys.length with hl | hl
    · exact .inl (by omega)
    · obtain rfl : k = ys.length := by omega
      have z1 : Q.getD (i + ys.length) 0 = 0 := h5 _ (by omega)
      have z2 : ys.getD ys.length 0 = 0 := getD_ge (Nat.le_refl _)
      rw [z1, z2, Nat.mul_zero] at hT
      exact .inr ⟨rfl, by omega⟩

theorem MulDIn.of_eq {w W W' : World} {xs ys : List Nat} {i k c : Nat} (h : MulDIn w xs ys i k c W) (e1 : W'.heap = W.heap) (e2 : W'.os = W.os) (e3 : W'.tape = W.tape) (e4 : W'.output = W.output) : MulDIn w xs ys i k c W' := by
  obtain ⟨Q, h1, h2, h3, h4, h5, h6, h7, h8⟩ := h
  exact ⟨Q, h1.of_block (by rw [e1]), h2, h3, h4, h5, h6, h7, ⟨e2.trans h8.os, e3.trans h8.tape, e4.trans h8.output, by rw [e1]; exact h8.size, fun j hj => by rw [e1]; exact h8.block j hj⟩⟩

set_option maxRecDepth 100000 in
set_option maxHeartbeats 4000000 in
theorem MulD_any (ax ay : Option Addr) (cx cy n m : Nat) (w : World) (hx : DAt w ax cx n) (hy : DAt w ay cy m) (lx : (D n).length ≤ 536870912) (ly : (D m).length ≤ 536870912) :
    Calls Tryd.prog 19 #[.slice ax (D n).length cx, .slice ay (D m).length cy] w (GivesD w.heap.size (n * m) w) := by
  have hrx := hx.1
  have hry := hy.1
  have HXD := Lib.hid (D_dig n)
  have HYD := Lib.hid (D_dig m)
  have HV : Hid (val 10 (D n) * val 10 (D m) = n * m) := Lib.hid (by rw [val_D, val_D])
  clear hx hy
  generalize D n = xs at *
  generalize D m = ys at *
  generalize n * m = s at *
  have hmk := make_run (P := Tryd.prog) Tryd.underlying27 info_int ((xs.length : Int) + (ys.length : Int) + 1) ((xs.length : Int) + (ys.length : Int) + 1) (xs.length + ys.length + 1) (xs.length + ys.length + 1) (by omega) (by omega) (Nat.le_refl _) (by omega) (by unfold maxLen; omega)
  have H0 := Lib.hid (MulDOut.start w xs ys)
  go_enter Tryd.func19, Tryd.ntmps19
  go_wp2_with fail
  clear hmk
  go_loopw [6] (fun iv wr => ∃ i : Nat, i ≤ xs.length ∧ iv = .int .i64 i ∧ MulDOut w xs ys i wr) (fun iv _ => xs.length - (intOf iv).toNat)
  case atStart => exact ⟨0, Nat.zero_le _, rfl, H0.out⟩
  case round =>
    obtain ⟨i, hi, rfl, hout⟩ := hrel
    have HO := Lib.hid hout
    clear hout H0
    by_cases hlt : i < xs.length
    · have d1 : (i : Int) < (xs.length : Int) := by omega
      have d1' : decide (i < xs.length) = true := decide_eq_true (by omega)
      have hBB : Below w.heap.size w wr := by obtain ⟨Q, _, _, _, _, _, hB⟩ := HO.out; exact hB
      have HI := Lib.hid HO.out.enter
      clear hBB HO
      go_wp2_with fail
      go_loopw [7, 8] (fun cv kv wr => ∃ k c : Nat, cv = .int .i64 c ∧ kv = .int .i64 k ∧ k ≤ ys.length + 1 ∧ MulDIn w xs ys i k c wr) (fun _ kv _ => ys.length + 1 - (intOf kv).toNat)
      case atStart => exact ⟨0, 0, rfl, rfl, by omega, HI.out⟩
      case round =>
        obtain ⟨k, c, rfl, rfl, hk1, hin⟩ := hrel
        have HN := Lib.hid hin
        have hB2 : Below w.heap.size w wr := by obtain ⟨Q, _, _, _, _, _, _, _, hB⟩ := hin; exact hB
        clear hin HI
        by_cases hgo : k < ys.length ∨ 0 < c
        · obtain ⟨q, hq, hc9, hky, hcq, hfq, hnext⟩ := HN.out.step HYD.out HXD.out hlt hgo
          obtain ⟨j, hj⟩ : ∃ j : Nat, (i : Int) + (k : Int) = (j : Int) := ⟨i + k, by omega⟩
          have hje : i + k = j := by omega
          rw [hje] at hcq hfq hnext
          have hjl : j < xs.length + ys.length + 1 := by omega
          obtain ⟨x, hxe⟩ : ∃ x, x = xs.getD i 0 := ⟨_, rfl⟩
          obtain ⟨y, hye⟩ : ∃ y, y = ys.getD k 0 := ⟨_, rfl⟩
          have hx9 : x ≤ 9 := by have := HXD.out.getD i (by omega); omega
          have hy9 : y ≤ 9 := by have := HYD.out.getD k (by omega); omega
          rw [← hxe, ← hye] at hnext
          obtain ⟨S, hS⟩ : ∃ S : Nat, (q : Int) + (c : Int) = (S : Int) := ⟨q + c, by omega⟩
          have hSb : S ≤ 18 := by omega
          clear hje
          by_cases hkl : k < ys.length
          · have d2 : (k : Int) < (ys.length : Int) := by omega
            have d2' : decide (k < ys.length) = true := decide_eq_true (by omega)
            obtain ⟨g1, o1, rfl, hg1, hc1⟩ := (hrx.kept hB2).open' (by rw [List.length_map]; omega)
            have hck1 := hc1 i _ (map_getElem? (xs := xs) hlt)
            rw [← hxe] at hck1
            obtain ⟨g2, o2, rfl, hg2, hc2⟩ := (hry.kept hB2).open' (by rw [List.length_map]; omega)
            have hck2 := hc2 k _ (map_getElem? (xs := ys) hkl)
            rw [← hye] at hck2
            unfold i64v at hck1 hck2
            have hp81 : x * y ≤ 81 := Nat.mul_le_mul hx9 hy9
            obtain ⟨p, hp⟩ : ∃ p : Nat, (x : Int) * (y : Int) = (p : Int) := ⟨x * y, by rw [Int.natCast_mul]⟩
            have hpe : p = x * y := by rw [← Int.natCast_mul] at hp; omega
            have hpb : p ≤ 81 := by omega
            obtain ⟨T, hT⟩ : ∃ T : Nat, (S : Int) + (p : Int) = (T : Int) := ⟨S + p, by omega⟩
            have hTb : T ≤ 99 := by omega
            obtain ⟨d, hd⟩ : ∃ d : Nat, (T : Int) % 10 = (d : Int) := ⟨T % 10, by omega⟩
            obtain ⟨c', hc'⟩ : ∃ c' : Nat, (T : Int) / 10 = (c' : Int) := ⟨T / 10, by omega⟩
            have HX := Lib.hid (hnext T d c' (by omega) (by omega) (by omega))
            have hi0 : (0 : Int) ≤ (i : Int) := by omega
            have hk0 : (0 : Int) ≤ (k : Int) := by omega
            have hwp : IntKind.i64.wrap (p : Int) = (p : Int) := IntWalk.i64_in _ (by omega)
            have hwT : IntKind.i64.wrap (T : Int) = (T : Int) := IntWalk.i64_in _ (by omega)
            clear hnext hc1 hc2 hxe hye hpe hp81 HN hgo
            go_wp2_with fail
            go_quiet (fail)
            clear hwp hwT
            go_wp2_with fail
            go_roundw
            case rel => exact ⟨k + 1, c', rfl, by go_num, by omega, HX.out.of_eq rfl rfl rfl rfl⟩
            case measure => simp [intOf]; omega
          · have d2 : ¬ (k : Int) < (ys.length : Int) := by omega
            have d2' : decide (k < ys.length) = false := decide_eq_false (by omega)
            have d3 : (0 : Int) < (c : Int) := by omega
            have hy0 : y = 0 := by rw [hye]; exact getD_ge (by omega)
            obtain ⟨d, hd⟩ : ∃ d : Nat, (S : Int) % 10 = (d : Int) := ⟨S % 10, by omega⟩
            obtain ⟨c', hc'⟩ : ∃ c' : Nat, (S : Int) / 10 = (c' : Int) := ⟨S / 10, by omega⟩
            have HX := Lib.hid (hnext S d c' (by rw [hy0, Nat.mul_zero]; omega) (by omega) (by omega))
            clear hnext hxe hye hy0 HN hgo
            go_wp2_with fail
            go_roundw
            case rel => exact ⟨k + 1, c', rfl, by go_num, by omega, HX.out⟩
            case measure => simp [intOf]; omega
        · have hc0 : c = 0 := by omega
          subst hc0
          have d2 : ¬ (k : Int) < (ys.length : Int) := by omega
          have d2' : decide (k < ys.length) = false := decide_eq_false (by omega)
          have HX := Lib.hid (HN.out.leave (by omega))
          clear HN hgo
          go_wp2_with fail
          go_roundw
          case rel => exact ⟨i + 1, by omega, by go_num, HX.out⟩
          case measure => simp [intOf]; omega
    · obtain rfl : i = xs.length := by omega
      obtain ⟨Q, h1, h2, h3, h4, h5, h6⟩ := HO.out
      rw [List.take_length, HV.out] at h4
      have HC := Lib.hid (cut_D h1.reads0 (by rw [h2]; exact Nat.le_refl _) (by unfold maxLen; omega) h3 h4 h6 (.inr fun g off e => by cases e; exact Nat.le_refl _))
      rw [h2] at HC
      clear h1 h2 h3 h4 h5 h6 HO
      go_wp2_with fail
      refine HC.out.mono ?_
      rintro e w2 ⟨a2, c2, rfl, hd2, hb2⟩
      have HE := Lib.hid (And.intro hd2 hb2)
      clear hd2 hb2 HC
      go_wp2_with fail
      go_ret
      exact ⟨a2, c2, rfl, HE.out.1, HE.out.2⟩
end Go.Proofs.YtaiemcacpimcjaaDoor
