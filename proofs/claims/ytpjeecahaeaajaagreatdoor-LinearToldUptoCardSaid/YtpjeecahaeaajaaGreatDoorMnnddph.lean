/- By program out of: GcdLong, Gcd, St, RatNum, RatFit, RatMake. -/
import Derived.Test.YtpjeecahaeaajaaGreatDoorMihmiff
import Derived.Test.YtpjeecahaeaajaaGreatDoorMbbaeag
import Derived.Deep.LoopGhost
import Derived.Test.YtpjeecahaeaajaaGreatDoorMhadfpk
import Derived.Test.YtpjeecahaeaajaaGreatDoorMgpjold
set_option linter.unusedVariables false
set_option linter.unusedSimpArgs false
namespace Go.Proofs.YtpjeecahaeaajaaGreatDoor
open Go.RowKit Rep
structure PosAt (B : Nat) (w : World) (g c n : Nat) : Prop where
  row : Row 68 w g c ((L n).map u32v)
  ge : B ≤ g
  cap : c ≤ maxLen
  pos : 0 < n
theorem PosAt.grown {B g c n g' : Nat} {w w' : World} (h : PosAt B w g c n) (hg : w.grownBy w' (some g')) (hne : g ≠ g') : PosAt B w' g c n := ⟨h.row.grown hg (by simpa using hne), h.ge, h.cap, h.pos⟩
theorem PosAt.num {B g c n : Nat} {w : World} (h : PosAt B w g c n) : NumAt w (some ⟨g, 0, none⟩) c n := ⟨h.row.reads0, by have := h.row.le; simpa using this, h.cap⟩
theorem PosAt.len {B g c n : Nat} {w : World} (h : PosAt B w g c n) : 0 < (L n).length := Nat.pos_of_ne_zero fun e => by rw [L_len_zero] at e; have := h.pos; omega
theorem PosAt.le {B g c n : Nat} {w : World} (h : PosAt B w g c n) : (L n).length ≤ c := by have := h.row.le; simpa using this
def GivesPos (B g n : Nat) (w : World) (e : Ending) (w' : World) : Prop := ∃ c', e = .returned (.slice (some ⟨g, 0, none⟩) (L n).length c') ∧ PosAt B w' g c' n ∧ w.grownBy w' (some g)
theorem GivesTake.to_pos {B g n : Nat} {w w' : World} {e : Ending} (h : GivesTake B (some ⟨g, 0, none⟩) n w e w') (hB : B ≤ g) (hn : 0 < n) : GivesPos B g n w e w' := by
  obtain ⟨c', he, hr, hc, hg⟩ := h.pos hn
  exact ⟨c', he, ⟨hr, hB, hc, hn⟩, hg⟩
theorem shr_pos {B g c k m n : Nat} {w : World} (h : PosAt B w g c n) (he : n = 2 ^ k * (2 * m + 1)) (hl : (L n).length ≤ 2000000) :
    Calls Tryz.prog 109 #[.slice (some ⟨g, 0, none⟩) (L n).length c, .int .i64 (k : Int)] w (GivesPos B g (2 * m + 1) w) := by
  have hk : 2 ^ k ≤ n := by
    have : 2 ^ k * 1 ≤ 2 ^ k * (2 * m + 1) := Nat.mul_le_mul_left _ (by omega)
    omega
  refine (shiftRight_own B g c k n w h.row h.ge h.cap hk (by omega)).mono ?_
  rintro e w' ht
  have hq : n / 2 ^ k = 2 * m + 1 := by rw [he, Nat.mul_div_cancel_left _ (Nat.pow_pos (by omega))]
  rw [hq] at ht
  exact ht.to_pos h.ge (by omega)
structure GcdAt (B : Nat) (w wr : World) (G t k : Nat) (gx cx n gy cy m : Nat) : Prop where
  x : PosAt B wr gx cx n
  y : PosAt B wr gy cy m
  ne : gx ≠ gy
  ox : n % 2 = 1
  oy : m % 2 = 1
  gcd : Nat.gcd n m * 2 ^ t = G
  lx : (L n).length ≤ 2000000
  ly : (L m).length ≤ 2000000
  below : Below B w wr
  tab : Tab wr
  fuel : n + m ≤ k
theorem GcdAt.swap {B : Nat} {w wr : World} {G t k gx cx n gy cy m : Nat} (h : GcdAt B w wr G t k gx cx n gy cy m) : GcdAt B w wr G t k gy cy m gx cx n :=
  ⟨h.y, h.x, Ne.symm h.ne, h.oy, h.ox, by rw [Nat.gcd_comm]; exact h.gcd, h.ly, h.lx, h.below, h.tab, by have := h.fuel; omega⟩
theorem Tab.row {w w' : World} {E : TypeId} {g c : Nat} {vs : List Value} (h : Tab w) (hr : w.frozen? ⟨g, 0, none⟩ = w.frozen? ⟨g, 0, none⟩) (hg : w.grownBy w' (some g)) (hne : g ≠ 3) : Tab w' := fun j hj =>
  hg.cell (h j hj) (by simp; exact fun e => hne e.symm)
theorem odd_mod (m : Nat) : (2 * m + 1) % 2 = 1 := by omega
theorem GcdAt.next {B : Nat} {w wr w2 w3 : World} {G t k gx cx cx2 n gy cy m kk mm : Nat} (h : GcdAt B w wr G t k gx cx n gy cy m) (hlt : m < n) (hx : PosAt B w3 gx cx2 (2 * mm + 1)) (he : n - m = 2 ^ kk * (2 * mm + 1)) (h2 : wr.grownBy w2 (some gx)) (h3 : w2.grownBy w3 (some gx))
    (hB : 3 < B) : GcdAt B w w3 G t (k - 1) gx cx2 (2 * mm + 1) gy cy m := by
  have hle : 2 * mm + 1 ≤ n - m := by
    have : 1 * (2 * mm + 1) ≤ 2 ^ kk * (2 * mm + 1) := Nat.mul_le_mul_right _ (Nat.pow_pos (by omega))
    omega
  have hg := grownBy_trans_new h2 h3
  have hm := h.y.pos
  have hgx := h.x.ge
  refine ⟨hx, h.y.grown hg (Ne.symm h.ne), h.ne, odd_mod _, h.oy, ?_, ?_, h.ly, h.below.grown hg (by have := h.x.row.lt; omega) (fun k hk => by cases hk; exact h.x.ge), fun j hj => hg.cell (h.tab j hj) (by simp; omega), by have := h.fuel; omega⟩
  · rw [gcd_step h.oy (Nat.le_of_lt hlt) he]; exact h.gcd
  · exact Nat.le_trans (rep_len_mono (by omega) (show 2 * mm + 1 ≤ n by omega)) h.lx
def GivesBelow (B G : Nat) (w : World) (e : Ending) (w' : World) : Prop := ∃ a c, e = .returned (.slice a (L G).length c) ∧ NumAt w' a c G ∧ Below B w w'
theorem round_calls {B : Nat} {w wr : World} {G t k gx cx n gy cy m : Nat} (h : GcdAt B w wr G t k gx cx n gy cy m) (hlt : m < n) (hB : 3 < B) :
    Hid (Calls Tryz.prog 93 #[.slice (some ⟨gx, 0, none⟩) (L n).length cx, .slice (some ⟨gy, 0, none⟩) (L m).length cy] wr fun e w2 => ∃ c2, e = .returned (.slice (some ⟨gx, 0, none⟩) (L (n - m)).length c2) ∧
      Hid (Calls Tryz.prog 108 #[.slice (some ⟨gx, 0, none⟩) (L (n - m)).length c2] w2 fun e w2' => ∃ kk : Nat, e = .returned (.int .i64 (kk : Int)) ∧ w2 = w2' ∧
        Hid (Calls Tryz.prog 109 #[.slice (some ⟨gx, 0, none⟩) (L (n - m)).length c2, .int .i64 (kk : Int)] w2 fun e w3 => ∃ c3 n', e = .returned (.slice (some ⟨gx, 0, none⟩) (L n').length c3) ∧ Hid (GcdAt B w w3 G t (k - 1) gx c3 n' gy cy m)))) := by
  have hlm : (L m).length ≤ (L n).length := rep_len_mono (by omega) (Nat.le_of_lt hlt)
  have hln := h.lx
  refine Lib.hid ((takeOff_some B gx (L n) (L m) cx cy (some ⟨gy, 0, none⟩) wr (L_lim n) (L_lim m) h.x.ge h.x.cap h.x.row h.y.row.reads0 (.inr fun g' off e => by cases e; simp; exact Ne.symm h.ne) (by omega) hlm (by rw [V_L, V_L]; omega)).mono ?_)
  rintro e w2 ht
  rw [V_L, V_L] at ht
  obtain ⟨c2, rfl, p2, g2⟩ := ht.to_pos h.x.ge (by omega)
  have hl2 : (L (n - m)).length ≤ 2000000 := Nat.le_trans (rep_len_mono (by omega) (show n - m ≤ n by omega)) h.lx
  have hgx := h.x.ge
  have htab : Tab w2 := fun j hj => g2.cell (h.tab j hj) (by simp; omega)
  refine ⟨c2, rfl, Lib.hid ((zeros_any (some ⟨gx, 0, none⟩) (L (n - m)) c2 w2 (L_lim _) p2.row.reads0 htab (by rw [V_L]; omega) (by omega)).mono ?_)⟩
  rintro e w2' ⟨kk, mm, rfl, he, rfl⟩
  rw [V_L] at he
  refine ⟨kk, rfl, rfl, Lib.hid ((shr_pos p2 he hl2).mono ?_)⟩
  rintro e w3 ⟨c3, rfl, p3, g3⟩
  exact ⟨c3, 2 * mm + 1, rfl, Lib.hid (h.next hlt p3 he g2 g3 hB)⟩
theorem raise_end {B : Nat} {w w1 : World} {G t n : Nat} {a : Option Addr} {c : Nat} (hn : NumAt w1 a c n) (hl : (L n).length ≤ 2000000) (ht : t ≤ 100000000) (hG : n * 2 ^ t = G) (hb : Below B w w1) (hB : B ≤ w1.heap.size) :
    Calls Tryz.prog 110 #[.slice a (L n).length c, .int .i64 (t : Int)] w1 (GivesBelow B G w) := by
  refine (raise_any a c n t w1 hn (by omega) (by omega)).mono ?_
  rintro e w2 ⟨a2, c2, rfl, h2, b2⟩
  rw [hG] at h2 ⊢
  exact ⟨a2, c2, rfl, h2, hb.trans (b2.mono hB)⟩
theorem two_form : ∀ n : Nat, 0 < n → ∃ a m, n = 2 ^ a * (2 * m + 1) := by
  intro n
  induction n using Nat.strongRecOn with
  | _ n ih =>
    intro h
    rcases Nat.mod_two_eq_zero_or_one n with h0 | h0
    · obtain ⟨a, m, he⟩ := ih (n / 2) (by omega) (by omega)
      refine ⟨a + 1, m, ?_⟩
      rw [Nat.pow_succ, Nat.mul_comm (2 ^ a), Nat.mul_assoc, ← he]
      omega
    · exact ⟨0, n / 2, by omega⟩
theorem two_unique {a b m n : Nat} (h : 2 ^ a * (2 * m + 1) = 2 ^ b * (2 * n + 1)) : a = b := by
  have key : ∀ {a b m n : Nat}, a < b → 2 ^ a * (2 * m + 1) = 2 ^ b * (2 * n + 1) → False := by
    intro a b m n hlt h
    obtain ⟨d, rfl⟩ : ∃ d, b = a + 1 + d := ⟨b - a - 1, by omega⟩
    rw [Nat.pow_add, Nat.pow_succ, Nat.mul_assoc, Nat.mul_assoc] at h
    have := Nat.eq_of_mul_eq_mul_left (Nat.pow_pos (by omega)) h
    omega
  rcases Nat.lt_trichotomy a b with hl | hl | hl
  · exact (key hl h).elim
  · exact hl
  · exact (key hl h.symm).elim
theorem zeros_exact {B g c N a m : Nat} {w : World} (h : PosAt B w g c N) (hT : Tab w) (he : N = 2 ^ a * (2 * m + 1)) (hl : (L N).length ≤ 2000000) :
    Calls Tryz.prog 108 #[.slice (some ⟨g, 0, none⟩) (L N).length c] w (Gives (.int .i64 (a : Int)) w) := by
  refine (zeros_any (some ⟨g, 0, none⟩) (L N) c w (L_lim _) h.row.reads0 hT (by rw [V_L]; have := h.pos; omega) (by omega)).mono ?_
  rintro e w' ⟨k, m', rfl, he', rfl⟩
  rw [V_L, he] at he'
  have := two_unique he'
  subst this
  exact ⟨rfl, rfl⟩
theorem exp_bound {N a m : Nat} (he : N = 2 ^ a * (2 * m + 1)) (hl : (L N).length ≤ 2000000) : a ≤ 100000000 := by
  have hk : 2 ^ a ≤ N := by
    have : 2 ^ a * 1 ≤ 2 ^ a * (2 * m + 1) := Nat.mul_le_mul_left _ (by omega)
    omega
  have := len_of_pow hk
  omega
theorem start_calls {B g1 c1 N g2 c2 M a b ma mb : Nat} {w : World} (hx : PosAt B w g1 c1 N) (hy : PosAt B w g2 c2 M) (hne : g1 ≠ g2) (hB : 3 < B) (hT : Tab w) (lx : (L N).length ≤ 2000000) (ly : (L M).length ≤ 2000000) (ea : N = 2 ^ a * (2 * ma + 1)) (eb : M = 2 ^ b * (2 * mb + 1)) :
    Hid (Calls Tryz.prog 108 #[.slice (some ⟨g1, 0, none⟩) (L N).length c1] w (Gives (.int .i64 (a : Int)) w)) ∧ Hid (Calls Tryz.prog 108 #[.slice (some ⟨g2, 0, none⟩) (L M).length c2] w (Gives (.int .i64 (b : Int)) w)) ∧
      Hid (Calls Tryz.prog 109 #[.slice (some ⟨g1, 0, none⟩) (L N).length c1, .int .i64 (a : Int)] w fun e w2 => ∃ c3, e = .returned (.slice (some ⟨g1, 0, none⟩) (L (2 * ma + 1)).length c3) ∧
        Hid (Calls Tryz.prog 108 #[.slice (some ⟨g2, 0, none⟩) (L M).length c2] w2 (Gives (.int .i64 (b : Int)) w2)) ∧
        Hid (Calls Tryz.prog 109 #[.slice (some ⟨g2, 0, none⟩) (L M).length c2, .int .i64 (b : Int)] w2 fun e w3 => ∃ c4, e = .returned (.slice (some ⟨g2, 0, none⟩) (L (2 * mb + 1)).length c4) ∧ Hid (GcdAt B w w3 (Nat.gcd N M) (min a b) (N + M) g1 c3 (2 * ma + 1) g2 c4 (2 * mb + 1)))) := by
  refine ⟨Lib.hid (zeros_exact hx hT ea lx), Lib.hid (zeros_exact hy hT eb ly), Lib.hid ((shr_pos hx ea lx).mono ?_)⟩
  rintro e w2 ⟨c3, rfl, p3, g3⟩
  have hy2 : PosAt B w2 g2 c2 M := hy.grown g3 (Ne.symm hne)
  have hg1 := hx.ge
  have hg2 := hy.ge
  have hT2 : Tab w2 := fun j hj => g3.cell (hT j hj) (by simp; omega)
  refine ⟨c3, rfl, Lib.hid (zeros_exact hy2 hT2 eb ly), Lib.hid ((shr_pos hy2 eb ly).mono ?_)⟩
  rintro e w3 ⟨c4, rfl, p4, g4⟩
  have hT3 : Tab w3 := fun j hj => g4.cell (hT2 j hj) (by simp; omega)
  have l1 : 2 * ma + 1 ≤ N := by
    have : 1 * (2 * ma + 1) ≤ 2 ^ a * (2 * ma + 1) := Nat.mul_le_mul_right _ (Nat.pow_pos (by omega))
    omega
  have l2 : 2 * mb + 1 ≤ M := by
    have : 1 * (2 * mb + 1) ≤ 2 ^ b * (2 * mb + 1) := Nat.mul_le_mul_right _ (Nat.pow_pos (by omega))
    omega
  have hBw : B ≤ w.heap.size := by have := hx.row.lt; omega
  have hBw2 : B ≤ w2.heap.size := by have := p3.row.lt; omega
  refine ⟨c4, rfl, Lib.hid ⟨p3.grown g4 hne, p4, hne, odd_mod _, odd_mod _, ?_, Nat.le_trans (rep_len_mono (by omega) l1) lx, Nat.le_trans (rep_len_mono (by omega) l2) ly, ?_, hT3, by omega⟩⟩
  · rw [ea, eb, gcd_start (odd_mod _) (odd_mod _)]
  · exact ((Below.refl B w).grown g3 hBw (fun k hk => by cases hk; exact hg1)).grown g4 hBw2 (fun k hk => by cases hk; exact hg2)
theorem GcdAt.kept {B : Nat} {w wr w' : World} {G t k gx cx n gy cy m : Nat} (h : GcdAt B w wr G t k gx cx n gy cy m) (hb : Below wr.heap.size wr w') : GcdAt B w w' G t k gx cx n gy cy m :=
  ⟨⟨h.x.row.kept hb, h.x.ge, h.x.cap, h.x.pos⟩, ⟨h.y.row.kept hb, h.y.ge, h.y.cap, h.y.pos⟩, h.ne, h.ox, h.oy, h.gcd, h.lx, h.ly, h.below.trans (hb.mono (by have := h.x.row.lt; have := h.x.ge; omega)), h.tab.kept hb, h.fuel⟩
theorem GcdAt.size {B : Nat} {w wr : World} {G t k gx cx n gy cy m : Nat} (h : GcdAt B w wr G t k gx cx n gy cy m) : B ≤ wr.heap.size := by have := h.x.row.lt; have := h.x.ge; omega
theorem word_lt {n : Nat} (h : ¬ 2 < (L n).length) : n < 18446744073709551616 := by
  have := (L_len n 2).1 (by omega)
  omega
theorem last_calls {B : Nat} {w wr : World} {G t k gx cx n gy cy m : Nat} (h : GcdAt B w wr G t k gx cx n gy cy m) (h1 : ¬ 2 < (L n).length) (h2 : ¬ 2 < (L m).length) (ht : t ≤ 100000000) :
    Hid (Calls Tryz.prog 101 #[.slice (some ⟨gx, 0, none⟩) (L n).length cx] wr (Gives (.int .u64 (n : Int)) wr)) ∧ Hid (Calls Tryz.prog 101 #[.slice (some ⟨gy, 0, none⟩) (L m).length cy] wr (Gives (.int .u64 (m : Int)) wr)) ∧
      Hid (Calls Tryz.prog 100 #[.int .u64 (n : Int), .int .u64 (m : Int)] wr fun e w2 => ∃ d : Nat, e = .returned (.int .u64 (d : Int)) ∧
        Hid (Calls Tryz.prog 43 #[.int .u64 (d : Int)] w2 fun e w3 => ∃ a c, e = .returned (.slice a (L d).length c) ∧ Hid (Calls Tryz.prog 110 #[.slice a (L d).length c, .int .i64 (t : Int)] w3 (GivesBelow B G w)))) := by
  have hn := word_lt h1
  have hm := word_lt h2
  refine ⟨Lib.hid ?_, Lib.hid ?_, Lib.hid ?_⟩
  · have := word_any (some ⟨gx, 0, none⟩) (L n) cx wr (L_lim n) h.x.row.reads0 (by omega)
    rwa [V_L] at this
  · have := word_any (some ⟨gy, 0, none⟩) (L m) cy wr (L_lim m) h.y.row.reads0 (by omega)
    rwa [V_L] at this
  · refine (gcdWord_any n m wr hn hm).mono ?_
    rintro e w2 ⟨rfl, nd, rfl⟩
    have hd : Nat.gcd n m < 18446744073709551616 := Nat.lt_of_le_of_lt (Nat.le_of_dvd h.x.pos (Nat.gcd_dvd_left n m)) hn
    have hb2 : Below B w (wr.drewN nd) := ⟨h.below.os, h.below.tape, h.below.output, h.below.size, h.below.block⟩
    have hs2 : B ≤ (wr.drewN nd).heap.size := h.size
    refine ⟨Nat.gcd n m, rfl, Lib.hid ?_⟩
    refine (of_any _ hd (wr.drewN nd)).mono ?_
    rintro e w3 ⟨a, c, rfl, hat, hb⟩
    have hl : (L (Nat.gcd n m)).length ≤ 2 := (L_len _ _).2 (by omega)
    exact ⟨a, c, rfl, Lib.hid (raise_end hat (by omega) ht h.gcd (hb2.trans (hb.mono hs2)) (Nat.le_trans hs2 hb.size))⟩
set_option maxRecDepth 100000 in
set_option maxHeartbeats 4000000 in
theorem gcdLong_any (B g1 c1 N g2 c2 M : Nat) (w : World) (hx : PosAt B w g1 c1 N) (hy : PosAt B w g2 c2 M) (hne : g1 ≠ g2) (hB : 3 < B) (hT : Tab w) (lx : (L N).length ≤ 2000000) (ly : (L M).length ≤ 2000000) :
    Calls Tryz.prog 102 #[.slice (some ⟨g1, 0, none⟩) (L N).length c1, .slice (some ⟨g2, 0, none⟩) (L M).length c2] w (GivesBelow B (Nat.gcd N M) w) := by
  obtain ⟨a, ma, ea⟩ := two_form N hx.pos
  obtain ⟨b, mb, eb⟩ := two_form M hy.pos
  obtain ⟨HZ1, HZ2, HS1⟩ := start_calls hx hy hne hB hT lx ly ea eb
  have hab : a ≤ 100000000 := exp_bound ea lx
  have hbb : b ≤ 100000000 := exp_bound eb ly
  clear hx hy hne hT ea eb
  go_enter Tryz.func102, Tryz.ntmps102
  go_wp2_with fail
  refine HZ1.out.mono ?_
  rintro e w' ⟨rfl, rfl⟩
  go_wp2_with fail
  refine HZ2.out.mono ?_
  rintro e w' ⟨rfl, rfl⟩
  go_wp2_with fail
  refine HZ1.out.mono ?_
  rintro e w' ⟨rfl, rfl⟩
  go_wp2_with fail
  refine HS1.out.mono ?_
  rintro e w2 ⟨c3, rfl, HZ3, HS2⟩
  go_wp2_with fail
  refine HZ3.out.mono ?_
  rintro e w' ⟨rfl, rfl⟩
  go_wp2_with fail
  refine HS2.out.mono ?_
  rintro e w3 ⟨c4, rfl, HG⟩
  rw [min_nat]
  have ht : min a b ≤ 100000000 := by omega
  clear HZ1 HZ2 HZ3 HS1 HS2 hab hbb lx ly
  generalize min a b = t at *
  generalize hGe : Nat.gcd N M = G at *
  clear hGe
  go_wp2_with fail
  go_loopg [0, 1] (N + M) (fun k xv yv wr => ∃ gx cx n gy cy m, xv = .slice (some ⟨gx, 0, none⟩) (L n).length cx ∧ yv = .slice (some ⟨gy, 0, none⟩) (L m).length cy ∧ GcdAt B w wr G t k gx cx n gy cy m)
  case atStart => exact ⟨_, _, _, _, _, _, rfl, rfl, HG.out⟩
  case round =>
    obtain ⟨gx, cx, n, gy, cy, m, rfl, rfl, hg⟩ := hrel
    have HR := Lib.hid hg
    have hnl := hg.lx
    have hml := hg.ly
    have hfu : 0 < gk := by have := hg.fuel; have := hg.x.pos; omega
    clear hg HG
    by_cases hex : ¬ 2 < (L n).length ∧ ¬ 2 < (L m).length
    · obtain ⟨e1, e2⟩ := hex
      obtain ⟨HA, HBw, HC⟩ := last_calls HR.out e1 e2 ht
      have d1 : decide ((2 : Int) < ((L n).length : Int)) = false := decide_eq_false (by omega)
      have d2 : decide ((2 : Int) < ((L m).length : Int)) = false := decide_eq_false (by omega)
      clear HR
      go_wp2_with fail
      refine HA.out.mono ?_
      rintro e w' ⟨rfl, rfl⟩
      go_wp2_with fail
      refine HBw.out.mono ?_
      rintro e w' ⟨rfl, rfl⟩
      go_wp2_with fail
      refine HC.out.mono ?_
      rintro e w4 ⟨d, rfl, HO⟩
      clear HA HBw HC d1 d2 e1 e2
      go_wp2_with fail
      refine HO.out.mono ?_
      rintro e w5 ⟨a5, c5, rfl, HRs⟩
      clear HO
      go_wp2_with fail
      refine HRs.out.mono ?_
      rintro e w6 ⟨a6, c6, rfl, hn6, hb6⟩
      have HE := Lib.hid (And.intro hn6 hb6)
      clear hn6 hb6 HRs
      go_wp2_with fail
      go_ret
      exact ⟨a6, c6, rfl, HE.out.1, HE.out.2⟩
    · have hgo : ((decide ((2 : Int) < ((L n).length : Int)) = true) ∧ (2 : Int) < ((L n).length : Int)) ∨ (decide ((2 : Int) < ((L n).length : Int)) = false ∧ decide ((2 : Int) < ((L m).length : Int)) = true ∧ (2 : Int) < ((L m).length : Int)) := by
        by_cases e1 : 2 < (L n).length
        · exact .inl ⟨decide_eq_true (by omega), by omega⟩
        · exact .inr ⟨decide_eq_false (by omega), decide_eq_true (by omega), by omega⟩
      have HCM := Lib.hid (compare_num (some ⟨gx, 0, none⟩) (some ⟨gy, 0, none⟩) cx cy n m wr HR.out.x.num HR.out.y.num (by omega))
      clear hex
      have hcs : (cmpI (n : Int) (m : Int) = 0 ∧ n = m) ∨ (cmpI (n : Int) (m : Int) = 1 ∧ m < n) ∨ (cmpI (n : Int) (m : Int) = -1 ∧ n < m) := by
        unfold cmpI
        rcases Nat.lt_trichotomy n m with h | h | h
        · rw [if_pos (by omega)]; exact .inr (.inr ⟨rfl, h⟩)
        · rw [if_neg (by omega), if_pos (by omega)]; exact .inl ⟨rfl, h⟩
        · rw [if_neg (by omega), if_neg (by omega)]; exact .inr (.inl ⟨rfl, h⟩)
      generalize cmpI (n : Int) (m : Int) = cm at *
      rcases hgo with ⟨d1, d2⟩ | ⟨d1, d2, d3⟩
      all_goals
        rcases hcs with ⟨rfl, he⟩ | ⟨rfl, he⟩ | ⟨rfl, he⟩
        · have hd : n * 2 ^ t = G := by have := HR.out.gcd; rw [← he, Nat.gcd_self] at this; exact this
          have HRA := Lib.hid (fun (w4 : World) (hb : Below wr.heap.size wr w4) => raise_end (HR.out.kept hb).x.num HR.out.lx ht hd (HR.out.kept hb).below (HR.out.kept hb).size)
          clear he hd HR
          go_wp2_with fail
          refine HCM.out.mono ?_
          rintro e w4 ⟨rfl, hb4⟩
          have HRB := Lib.hid (HRA.out w4 hb4)
          clear HRA hb4 HCM
          go_wp2_with fail
          refine HRB.out.mono ?_
          rintro e w6 ⟨a6, c6, rfl, hn6, hb6⟩
          have HE := Lib.hid (And.intro hn6 hb6)
          clear hn6 hb6 HRB
          go_wp2_with fail
          go_ret
          exact ⟨a6, c6, rfl, HE.out.1, HE.out.2⟩
        · have HRC := Lib.hid (fun (w4 : World) (hb : Below wr.heap.size wr w4) => round_calls (HR.out.kept hb) he hB)
          clear he HR
          go_wp2_with fail
          refine HCM.out.mono ?_
          rintro e w4 ⟨rfl, hb4⟩
          have HT := Lib.hid (HRC.out w4 hb4).out
          clear HRC hb4 HCM
          go_wp2_with fail
          refine HT.out.mono ?_
          rintro e w5 ⟨c5, rfl, HZ⟩
          clear HT
          go_wp2_with fail
          refine HZ.out.mono ?_
          rintro e w6 ⟨kk, rfl, rfl, HS⟩
          clear HZ
          go_wp2_with fail
          refine HS.out.mono ?_
          rintro e w7 ⟨c7, n7, rfl, HN⟩
          clear HS
          go_wp2_with fail
          go_roundg (gk - 1)
          case rel => exact ⟨_, _, _, _, _, _, rfl, rfl, HN.out⟩
          case measure => omega
        · have HRC := Lib.hid (fun (w4 : World) (hb : Below wr.heap.size wr w4) => round_calls (HR.out.kept hb).swap he hB)
          clear he HR
          go_wp2_with fail
          refine HCM.out.mono ?_
          rintro e w4 ⟨rfl, hb4⟩
          have HT := Lib.hid (HRC.out w4 hb4).out
          clear HRC hb4 HCM
          go_wp2_with fail
          refine HT.out.mono ?_
          rintro e w5 ⟨c5, rfl, HZ⟩
          clear HT
          go_wp2_with fail
          refine HZ.out.mono ?_
          rintro e w6 ⟨kk, rfl, rfl, HS⟩
          clear HZ
          go_wp2_with fail
          refine HS.out.mono ?_
          rintro e w7 ⟨c7, n7, rfl, HN⟩
          clear HS
          go_wp2_with fail
          go_roundg (gk - 1)
          case rel => exact ⟨_, _, _, _, _, _, rfl, rfl, HN.out⟩
          case measure => omega
end Go.Proofs.YtpjeecahaeaajaaGreatDoor

set_option linter.unusedVariables false
set_option linter.unusedSimpArgs false
namespace Go.Proofs.YtpjeecahaeaajaaGreatDoor
open Go.RowKit Rep
theorem Own.pos_at {B c n : Nat} {w : World} {a : Option Addr} (h : Own B w a c (L n)) (hn : 0 < n) : ∃ g, a = some ⟨g, 0, none⟩ ∧ PosAt B w g c n := by
  have hpos : 0 < (L n).length := Nat.pos_of_ne_zero fun e => by rw [L_len_zero] at e; omega
  obtain ⟨g, rfl, hg, hr⟩ := h.row hpos
  exact ⟨g, rfl, hr, hg, h.1, hn⟩
theorem gcd_calls {w w1 : World} {a1 a2 : Option Addr} {c1 c2 n1 n2 G : Nat} (hb : Below w.heap.size w w1) (h1 : NumAt w a1 c1 n1) (h2 : NumAt w a2 c2 n2) (hT : Tab w) (hn2 : 0 < n2) (l1 : (L n1).length ≤ 2000000) (l2 : (L n2).length ≤ 2000000) (hG : Nat.gcd n1 n2 = G) :
    Hid (Calls Tryz.prog 92 #[.slice a1 (L n1).length c1, .slice a2 (L n2).length c2] w1 fun e w2 => ∃ a3 c3 a4 c4 q r, e = .returned (.tuple #[.slice a3 (L q).length c3, .slice a4 (L r).length c4]) ∧
      Hid (r = 0 → Calls Tryz.prog 76 #[.slice a2 (L n2).length c2] w2 fun e w3 => ∃ a c, e = .returned (.slice a (L n2).length c) ∧ Hid (n2 = G ∧ NumAt w3 a c n2 ∧ Below w.heap.size w w3)) ∧
      Hid (0 < r → (L n2).length ≤ 2 → (Calls Tryz.prog 101 #[.slice a2 (L n2).length c2] w2 (Gives (.int .u64 (n2 : Int)) w2)) ∧ (Calls Tryz.prog 101 #[.slice a4 (L r).length c4] w2 (Gives (.int .u64 (r : Int)) w2)) ∧
        (Calls Tryz.prog 100 #[.int .u64 (n2 : Int), .int .u64 (r : Int)] w2 fun e w3 => e = .returned (.int .u64 (G : Int)) ∧ Hid (Calls Tryz.prog 43 #[.int .u64 (G : Int)] w3 (GivesBelow w.heap.size G w)))) ∧
      Hid (0 < r → Calls Tryz.prog 76 #[.slice a2 (L n2).length c2] w2 fun e w3 => ∃ a5 c5, e = .returned (.slice a5 (L n2).length c5) ∧ Hid (Calls Tryz.prog 102 #[.slice a5 (L n2).length c5, .slice a4 (L r).length c4] w3 (GivesBelow w.heap.size G w)))) := by
  refine Lib.hid ((divide_any a1 a2 c1 c2 n1 n2 w1 (h1.kept hb) (h2.kept hb) hn2 l1).mono ?_)
  rintro e w2 hd
  obtain ⟨a3, c3, a4, c4, rfl, o1, o2, hB⟩ := hd.mono hb
  have h22 := h2.kept hB
  have hlr : (L (n1 % n2)).length ≤ 2000000 := Nat.le_trans (rep_len_mono (by omega) (Nat.le_of_lt (Nat.mod_lt n1 hn2))) l2
  have hGr : Nat.gcd n2 (n1 % n2) = G := by rw [← hG, Nat.gcd_comm n1 n2, Nat.gcd_rec n2 n1, Nat.gcd_comm]
  have hs : w.heap.size ≤ w2.heap.size := hB.size
  refine ⟨a3, c3, a4, c4, n1 / n2, n1 % n2, rfl, Lib.hid fun h0 => ?_, Lib.hid fun h0 hl => ?_, Lib.hid fun h0 => ?_⟩
  · refine (clone_any a2 c2 n2 w2 h22 (by omega)).mono ?_
    rintro e w3 ⟨a, c, rfl, ho, hb3⟩
    rw [h0, Nat.gcd_zero_right] at hGr
    exact ⟨a, c, rfl, Lib.hid ⟨hGr, ho.num, hB.trans (hb3.mono hs)⟩⟩
  · have b2 := word_lt (n := n2) (by omega)
    have br : n1 % n2 < 18446744073709551616 := Nat.lt_trans (Nat.mod_lt n1 hn2) b2
    have hlr2 : (L (n1 % n2)).length ≤ 2 := (L_len _ _).2 (by omega)
    refine ⟨?_, ?_, ?_⟩
    · have := word_any a2 (L n2) c2 w2 (L_lim n2) h22.1 hl
      rwa [V_L] at this
    · have := word_any a4 (L (n1 % n2)) c4 w2 (L_lim _) o2.reads hlr2
      rwa [V_L] at this
    · refine (gcdWord_any n2 (n1 % n2) w2 b2 br).mono ?_
      rintro e w3 ⟨rfl, nd, rfl⟩
      rw [hGr]
      have hG2 : G < 18446744073709551616 := by
        rw [← hGr]; exact Nat.lt_of_le_of_lt (Nat.le_of_dvd hn2 (Nat.gcd_dvd_left _ _)) b2
      refine ⟨rfl, Lib.hid ?_⟩
      refine (of_any G hG2 (w2.drewN nd)).mono ?_
      rintro e w4 ⟨a, c, rfl, hat, hb4⟩
      have hB2 : Below w.heap.size w (w2.drewN nd) := ⟨hB.os, hB.tape, hB.output, hB.size, hB.block⟩
      exact ⟨a, c, rfl, hat, hB2.trans (hb4.mono hs)⟩
  · refine (clone_any a2 c2 n2 w2 h22 (by omega)).mono ?_
    rintro e w3 ⟨a5, c5, rfl, ho, hb3⟩
    obtain ⟨g4, rfl, p4⟩ := o2.pos_at h0
    obtain ⟨g5, rfl, p5⟩ := ho.pos_at hn2
    have hg4 := p4.row.lt
    have p4' : PosAt w.heap.size w3 g4 c4 (n1 % n2) := ⟨p4.row.kept hb3, p4.ge, p4.cap, p4.pos⟩
    have p5' : PosAt w.heap.size w3 g5 c5 n2 := ⟨p5.row, Nat.le_trans hs p5.ge, p5.cap, p5.pos⟩
    have hne : g5 ≠ g4 := by have := p5.ge; omega
    have htb : 3 < w.heap.size := World.block_lt_of_cell? w _ (hT 0 (by decide))
    refine ⟨_, c5, rfl, Lib.hid ?_⟩
    refine (gcdLong_any w.heap.size g5 c5 n2 g4 c4 (n1 % n2) w3 p5' p4' hne htb ((hT.kept hB).kept hb3) l2 hlr).mono ?_
    rintro e w4 ⟨a, c, rfl, hn, hb4⟩
    rw [hGr] at hn ⊢
    exact ⟨a, c, rfl, hn, (hB.trans (hb3.mono hs)).trans hb4⟩
set_option maxRecDepth 100000 in
set_option maxHeartbeats 4000000 in
theorem gcd_any (ax ay : Option Addr) (cx cy N M : Nat) (w : World) (hx : NumAt w ax cx N) (hy : NumAt w ay cy M) (hT : Tab w) (lx : (L N).length ≤ 2000000) (ly : (L M).length ≤ 2000000) :
    Calls Tryz.prog 91 #[.slice ax (L N).length cx, .slice ay (L M).length cy] w (GivesBelow w.heap.size (Nat.gcd N M) w) := by
  have HCM := Lib.hid (compare_num ax ay cx cy N M w hx hy (by omega))
  have hcs : (cmpI (N : Int) (M : Int) < 0 ∧ N < M) ∨ (¬ cmpI (N : Int) (M : Int) < 0 ∧ M ≤ N) := by
    unfold cmpI
    by_cases h : N < M
    · rw [if_pos (by omega)]; exact .inl ⟨by omega, h⟩
    · rw [if_neg (by omega)]; refine .inr ⟨?_, by omega⟩; split <;> omega
  obtain ⟨G, hG⟩ : ∃ G, Nat.gcd N M = G := ⟨_, rfl⟩
  rw [hG]
  generalize cmpI (N : Int) (M : Int) = cm at *
  go_enter Tryz.func91, Tryz.ntmps91
  go_wp2_with fail
  refine HCM.out.mono ?_
  rintro e w1 ⟨rfl, hb1⟩
  have HB := Lib.hid hb1
  clear HCM hb1
  rcases hcs with ⟨hc, hle⟩ | ⟨hc, hle⟩
  · obtain ⟨a1, rfl⟩ : ∃ z, z = ay := ⟨_, rfl⟩
    obtain ⟨a2, rfl⟩ : ∃ z, z = ax := ⟨_, rfl⟩
    obtain ⟨c1, rfl⟩ : ∃ z, z = cy := ⟨_, rfl⟩
    obtain ⟨c2, rfl⟩ : ∃ z, z = cx := ⟨_, rfl⟩
    obtain ⟨n1, rfl⟩ : ∃ z, z = M := ⟨_, rfl⟩
    obtain ⟨n2, rfl⟩ : ∃ z, z = N := ⟨_, rfl⟩
    rw [Nat.gcd_comm] at hG
    have H1 := Lib.hid (And.intro hy (And.intro hx (And.intro hT hG)))
    have hl1 := ly
    have hl2 := lx
    clear hx hy hT hG hle lx ly
    rcases Nat.eq_zero_or_pos n2 with h0 | h0
    · have HG : Hid (n1 = G) := Lib.hid (by have := H1.out.2.2.2; rw [h0, Nat.gcd_zero_right] at this; exact this)
      have hz : (((L n2).length : Int) == 0) = true := by rw [h0]; rfl
      have HC := Lib.hid (clone_any a1 c1 n1 w1 (H1.out.1.kept HB.out) (by omega))
      clear h0 H1
      go_wp2_with fail
      refine HC.out.mono ?_
      rintro e w2 ⟨a, c, rfl, ho, hb⟩
      have HE := Lib.hid (And.intro ho.num (HB.out.trans (hb.mono HB.out.size)))
      clear ho hb HC
      go_wp2_with fail
      go_ret
      exact ⟨a, c, by rw [← HG.out]; rfl, by rw [← HG.out]; exact HE.out.1, HE.out.2⟩
    · have hz : (((L n2).length : Int) == 0) = false := cast_beq_no (by rw [Ne, L_len_zero]; omega)
      have HD := gcd_calls HB.out H1.out.1 H1.out.2.1 H1.out.2.2.1 h0 hl1 hl2 H1.out.2.2.2
      clear H1
      go_wp2_with fail
      refine HD.out.mono ?_
      rintro e w2 ⟨a3, c3, a4, c4, q, r, rfl, HA, HW, HL⟩
      clear HD hz
      rcases Nat.eq_zero_or_pos r with hr | hr
      · have hz : (((L r).length : Int) == 0) = true := by rw [hr]; rfl
        have HA2 := Lib.hid (HA.out hr)
        clear HA HW HL hr
        go_wp2_with fail
        refine HA2.out.mono ?_
        rintro e w3 ⟨a, c, rfl, HE⟩
        clear HA2
        go_wp2_with fail
        go_ret
        exact ⟨a, c, by rw [← HE.out.1]; rfl, by rw [← HE.out.1]; exact HE.out.2.1, HE.out.2.2⟩
      · have hz : (((L r).length : Int) == 0) = false := cast_beq_no (by rw [Ne, L_len_zero]; omega)
        by_cases hl : (L n2).length ≤ 2
        · have hd : decide (((L n2).length : Int) ≤ 2) = true := decide_eq_true (by omega)
          have hdi : ((L n2).length : Int) ≤ 2 := by omega
          have HW2 := Lib.hid (HW.out hr hl)
          clear HA HW HL hr hl
          go_wp2_with fail
          refine HW2.out.1.mono ?_
          rintro e w' ⟨rfl, rfl⟩
          go_wp2_with fail
          refine HW2.out.2.1.mono ?_
          rintro e w' ⟨rfl, rfl⟩
          go_wp2_with fail
          refine HW2.out.2.2.mono ?_
          rintro e w3 ⟨rfl, HO⟩
          clear HW2
          go_wp2_with fail
          refine HO.out.mono ?_
          rintro e w4 ⟨a, c, rfl, hn, hb⟩
          have HE := Lib.hid (And.intro hn hb)
          clear hn hb HO
          go_wp2_with fail
          go_ret
          exact ⟨a, c, rfl, HE.out.1, HE.out.2⟩
        · have hd : decide (((L n2).length : Int) ≤ 2) = false := decide_eq_false (by omega)
          have hdi : ¬ ((L n2).length : Int) ≤ 2 := by omega
          have HL2 := Lib.hid (HL.out hr)
          clear HA HW HL hr hl
          go_wp2_with fail
          refine HL2.out.mono ?_
          rintro e w3 ⟨a5, c5, rfl, HG⟩
          clear HL2
          go_wp2_with fail
          refine HG.out.mono ?_
          rintro e w4 ⟨a, c, rfl, hn, hb⟩
          have HE := Lib.hid (And.intro hn hb)
          clear hn hb HG
          go_wp2_with fail
          go_ret
          exact ⟨a, c, rfl, HE.out.1, HE.out.2⟩
  · obtain ⟨a1, rfl⟩ : ∃ z, z = ax := ⟨_, rfl⟩
    obtain ⟨a2, rfl⟩ : ∃ z, z = ay := ⟨_, rfl⟩
    obtain ⟨c1, rfl⟩ : ∃ z, z = cx := ⟨_, rfl⟩
    obtain ⟨c2, rfl⟩ : ∃ z, z = cy := ⟨_, rfl⟩
    obtain ⟨n1, rfl⟩ : ∃ z, z = N := ⟨_, rfl⟩
    obtain ⟨n2, rfl⟩ : ∃ z, z = M := ⟨_, rfl⟩
    have H1 := Lib.hid (And.intro hx (And.intro hy (And.intro hT hG)))
    have hl1 := lx
    have hl2 := ly
    clear hx hy hT hG hle lx ly
    rcases Nat.eq_zero_or_pos n2 with h0 | h0
    · have HG : Hid (n1 = G) := Lib.hid (by have := H1.out.2.2.2; rw [h0, Nat.gcd_zero_right] at this; exact this)
      have hz : (((L n2).length : Int) == 0) = true := by rw [h0]; rfl
      have HC := Lib.hid (clone_any a1 c1 n1 w1 (H1.out.1.kept HB.out) (by omega))
      clear h0 H1
      go_wp2_with fail
      refine HC.out.mono ?_
      rintro e w2 ⟨a, c, rfl, ho, hb⟩
      have HE := Lib.hid (And.intro ho.num (HB.out.trans (hb.mono HB.out.size)))
      clear ho hb HC
      go_wp2_with fail
      go_ret
      exact ⟨a, c, by rw [← HG.out]; rfl, by rw [← HG.out]; exact HE.out.1, HE.out.2⟩
    · have hz : (((L n2).length : Int) == 0) = false := cast_beq_no (by rw [Ne, L_len_zero]; omega)
      have HD := gcd_calls HB.out H1.out.1 H1.out.2.1 H1.out.2.2.1 h0 hl1 hl2 H1.out.2.2.2
      clear H1
      go_wp2_with fail
      refine HD.out.mono ?_
      rintro e w2 ⟨a3, c3, a4, c4, q, r, rfl, HA, HW, HL⟩
      clear HD hz
      rcases Nat.eq_zero_or_pos r with hr | hr
      · have hz : (((L r).length : Int) == 0) = true := by rw [hr]; rfl
        have HA2 := Lib.hid (HA.out hr)
        clear HA HW HL hr
        go_wp2_with fail
        refine HA2.out.mono ?_
        rintro e w3 ⟨a, c, rfl, HE⟩
        clear HA2
        go_wp2_with fail
        go_ret
        exact ⟨a, c, by rw [← HE.out.1]; rfl, by rw [← HE.out.1]; exact HE.out.2.1, HE.out.2.2⟩
      · have hz : (((L r).length : Int) == 0) = false := cast_beq_no (by rw [Ne, L_len_zero]; omega)
        by_cases hl : (L n2).length ≤ 2
        · have hd : decide (((L n2).length : Int) ≤ 2) = true := decide_eq_true (by omega)
          have hdi : ((L n2).length : Int) ≤ 2 := by omega
          have HW2 := Lib.hid (HW.out hr hl)
          clear HA HW HL hr hl
          go_wp2_with fail
          refine HW2.out.1.mono ?_
          rintro e w' ⟨rfl, rfl⟩
          go_wp2_with fail
          refine HW2.out.2.1.mono ?_
          rintro e w' ⟨rfl, rfl⟩
          go_wp2_with fail
          refine HW2.out.2.2.mono ?_
          rintro e w3 ⟨rfl, HO⟩
          clear HW2
          go_wp2_with fail
          refine HO.out.mono ?_
          rintro e w4 ⟨a, c, rfl, hn, hb⟩
          have HE := Lib.hid (And.intro hn hb)
          clear hn hb HO
          go_wp2_with fail
          go_ret
          exact ⟨a, c, rfl, HE.out.1, HE.out.2⟩
        · have hd : decide (((L n2).length : Int) ≤ 2) = false := decide_eq_false (by omega)
          have hdi : ¬ ((L n2).length : Int) ≤ 2 := by omega
          have HL2 := Lib.hid (HL.out hr)
          clear HA HW HL hr hl
          go_wp2_with fail
          refine HL2.out.mono ?_
          rintro e w3 ⟨a5, c5, rfl, HG⟩
          clear HL2
          go_wp2_with fail
          refine HG.out.mono ?_
          rintro e w4 ⟨a, c, rfl, hn, hb⟩
          have HE := Lib.hid (And.intro hn hb)
          clear hn hb HG
          go_wp2_with fail
          go_ret
          exact ⟨a, c, rfl, HE.out.1, HE.out.2⟩
set_option maxRecDepth 100000 in
set_option maxHeartbeats 1000000 in
theorem Gcd_any (b m : Nat) (ax ay : Option Addr) (xs ys : List Nat) (cx cy : Nat) (w : World) (o : Bool) (h : Bench w b m o) (hx : NumIn w ax cx xs) (hy : NumIn w ay cy ys) (hT : Tab w) (lx : xs.length ≤ 2000000) (ly : ys.length ≤ 2000000) :
    Calls Tryz.prog 79 #[.pointer (some ⟨b, 0, none⟩), .slice ax xs.length cx, .slice ay ys.length cy] w (GivesOut b m o (Nat.gcd (V xs) (V ys)) w) := by
  cases o with
  | true => exact Gcd_over b m _ _ _ w h
  | false =>
    have h1 := h.c1
    have HB := Lib.hid h
    have hlx := cutAt_len xs hx.lim
    have hly := cutAt_len ys hy.lim
    have HT := Lib.hid hT
    clear h hT
    go_enter Tryz.func79, Tryz.ntmps79
    go_wp2_with fail
    refine (trim_num ax xs cx w hx.lim hx.reads hx.le hx.cap).mono ?_
    rintro e w' ⟨a1, c1, rfl, n1, rfl⟩
    go_wp2_with fail
    refine (trim_num ay ys cy w hy.lim hy.reads hy.le hy.cap).mono ?_
    rintro e w' ⟨a2, c2, rfl, n2, rfl⟩
    clear hx hy
    generalize V xs = N at *
    generalize V ys = M at *
    have HG := Lib.hid (gcd_any a1 a2 c1 c2 N M w n1 n2 HT.out (by omega) (by omega))
    generalize Nat.gcd N M = G at *
    clear n1 n2 HT
    go_wp2_with fail
    refine HG.out.mono ?_
    rintro e w1 ⟨a, c, rfl, hn, hb⟩
    have HF := Lib.hid (fit_out w w1 b m false a G c HB.out hn hb)
    clear hn hb HG h1
    go_wp2_with fail
    refine HF.out.mono ?_
    rintro e w2 ⟨a3, c3, rfl, hat, hb2, hg⟩
    have HE := Lib.hid (And.intro hat (And.intro hb2 hg))
    clear hat hb2 hg HF
    go_wp2_with fail
    go_ret
    exact ⟨a3, c3, rfl, HE.out.1, HE.out.2.1, HE.out.2.2⟩
end Go.Proofs.YtpjeecahaeaajaaGreatDoor

set_option linter.unusedVariables false
set_option linter.unusedSimpArgs false
namespace Go.Proofs.YtpjeecahaeaajaaGreatDoor
open Go.RowKit Rep
theorem remN_le (n m : Nat) : remN n m ≤ n := by
  unfold remN
  split
  · omega
  · exact Nat.mod_le _ _
abbrev Num := Option Addr × Nat × List Nat
structure StB (b m : Nat) (base W : World) (l : List Num) : Prop where
  bench : Bench W b m false
  below : Below base.heap.size base W
  ge : base.heap.size ≤ b
  tab : Tab W
  max : m ≤ maxLen
  nums : ∀ t ∈ l, NumIn W t.1 t.2.1 t.2.2 ∧ t.2.2.length ≤ 100000
theorem StB.num {b m : Nat} {base W : World} {l : List Num} (h : StB b m base W l) {a : Option Addr} {c : Nat} {xs : List Nat} (hm : (a, c, xs) ∈ l) : NumIn W a c xs := (h.nums _ hm).1
theorem StB.len {b m : Nat} {base W : World} {l : List Num} (h : StB b m base W l) {a : Option Addr} {c : Nat} {xs : List Nat} (hm : (a, c, xs) ∈ l) : xs.length ≤ 100000 := (h.nums _ hm).2
theorem StB.grown {b m : Nat} {base W W' : World} {l : List Num} (h : StB b m base W l) (hb : Bench W' b m false) (hg : W.grownBy W' (some b)) : StB b m base W' l :=
  ⟨hb, h.below.grown hg h.below.size (fun k hk => by cases hk; exact h.ge), h.ge, h.tab.bench h.bench hg, h.max, fun t ht => ⟨(h.nums t ht).1.bench h.bench hg, (h.nums t ht).2⟩⟩
theorem StB.kept {b m : Nat} {base W W' : World} {l : List Num} (h : StB b m base W l) (hb : Below W.heap.size W W') : StB b m base W' l :=
  ⟨h.bench.kept hb, h.below.trans (hb.mono h.below.size), h.ge, h.tab.kept hb, h.max, fun t ht => ⟨(h.nums t ht).1.kept hb, (h.nums t ht).2⟩⟩
theorem StB.cons {b m : Nat} {base W : World} {l : List Num} (h : StB b m base W l) {a : Option Addr} {c : Nat} {xs : List Nat} (hx : NumIn W a c xs) (hl : xs.length ≤ 100000) : StB b m base W ((a, c, xs) :: l) :=
  ⟨h.bench, h.below, h.ge, h.tab, h.max, fun t ht => by
    rcases List.mem_cons.1 ht with rfl | ht
    · exact ⟨hx, hl⟩
    · exact h.nums t ht⟩
theorem StB.out {b m n : Nat} {base W W' : World} {l : List Num} {e : Ending} (h : StB b m base W l) (hg : GivesOut b m false n W e W') (hn : (L n).length ≤ m) (hl : (L n).length ≤ 100000) :
    ∃ a c, e = .returned (.slice a (L n).length c) ∧ Hid (StB b m base W' ((a, c, L n) :: l)) := by
  obtain ⟨a, c, rfl, hat, hb, hgr⟩ := hg
  have ho : outO m false n = false := by simp [outO]; omega
  have hN : outN m false n = n := by unfold outN; rw [ho]; rfl
  rw [ho] at hb
  rw [hN] at hat ⊢
  exact ⟨a, c, rfl, Lib.hid ((h.grown hb hgr).cons (hat.inn (by omega)) hl)⟩
section
variable {b m n k : Nat} {base W : World} {l : List Num} {ax ay : Option Addr} {cx cy : Nat} {xs ys : List Nat}
theorem StB.add (h : StB b m base W l) (hx : (ax, cx, xs) ∈ l) (hy : (ay, cy, ys) ∈ l) (hn : V xs = n) (hk : V ys = k) {s : Nat} (hs : n + k = s) (hf : (L s).length ≤ m) (hl : (L s).length ≤ 100000) :
    Calls Tryz.prog 73 #[.pointer (some ⟨b, 0, none⟩), .slice ax xs.length cx, .slice ay ys.length cy] W fun e W' => ∃ a c, e = .returned (.slice a (L s).length c) ∧ Hid (StB b m base W' ((a, c, L s) :: l)) := by
  subst hn hk hs
  exact (Add_any b m ax ay xs ys cx cy W false h.bench (h.num hx) (h.num hy)).mono fun e W' hg => h.out hg hf hl
theorem StB.sub (h : StB b m base W l) (hx : (ax, cx, xs) ∈ l) (hy : (ay, cy, ys) ∈ l) (hn : V xs = n) (hk : V ys = k) {s : Nat} (hs : n - k = s) (hf : (L s).length ≤ m) (hl : (L s).length ≤ 100000) :
    Calls Tryz.prog 83 #[.pointer (some ⟨b, 0, none⟩), .slice ax xs.length cx, .slice ay ys.length cy] W fun e W' => ∃ a c, e = .returned (.slice a (L s).length c) ∧ Hid (StB b m base W' ((a, c, L s) :: l)) := by
  subst hn hk hs
  exact (Sub_any b m ax ay xs ys cx cy W false h.bench (h.num hx) (h.num hy)).mono fun e W' hg => h.out hg hf hl
theorem StB.gcd (h : StB b m base W l) (hx : (ax, cx, xs) ∈ l) (hy : (ay, cy, ys) ∈ l) (hn : V xs = n) (hk : V ys = k) {s : Nat} (hs : Nat.gcd n k = s) (hf : (L s).length ≤ m) (hl : (L s).length ≤ 100000) :
    Calls Tryz.prog 79 #[.pointer (some ⟨b, 0, none⟩), .slice ax xs.length cx, .slice ay ys.length cy] W fun e W' => ∃ a c, e = .returned (.slice a (L s).length c) ∧ Hid (StB b m base W' ((a, c, L s) :: l)) := by
  subst hn hk hs
  exact (Gcd_any b m ax ay xs ys cx cy W false h.bench (h.num hx) (h.num hy) h.tab (by have := h.len hx; omega) (by have := h.len hy; omega)).mono fun e W' hg => h.out hg hf hl
theorem StB.same (h : StB b m base W l) (hx : (ax, cx, L n) ∈ l) (hy : (ay, cy, L k) ∈ l) (hnk : n = k) :
    Calls Tryz.prog 47 #[.slice ax (L n).length cx, .slice ay (L k).length cy] W fun e W' => e = .returned (.bool true) ∧ Hid (StB b m base W' l) := by
  subst hnk
  refine (Same_any ax ay cx cy (L n) (L n) W (h.num hx).reads (h.num hy).reads (by have := h.len hx; omega)).mono ?_
  rintro e W' ⟨rfl, nd, rfl⟩
  exact ⟨by simp, Lib.hid (h.kept ⟨rfl, rfl, rfl, Nat.le_refl _, fun _ _ => rfl⟩)⟩
theorem StB.of (h : StB b m base W l) (hx : (ax, cx, xs) ∈ l) (hn : V xs = n) :
    Calls Tryz.prog 34 #[.slice ax xs.length cx] W fun e W' => ∃ a c, e = .returned (.slice a (D n).length c) ∧ Hid (StB b m base W' l ∧ DAt W' a c n) := by
  subst hn
  refine (OfD_any ax xs cx W (h.num hx).lim (h.num hx).reads (by have := h.len hx; omega)).mono ?_
  rintro e W' ⟨a, c, rfl, hd, hb, _⟩
  exact ⟨a, c, rfl, Lib.hid ⟨h.kept hb, hd⟩⟩
theorem StB.over (h : StB b m base W l) : Calls Tryz.prog 28 #[.pointer (some ⟨b, 0, none⟩)] W fun e W' => e = .returned (.bool false) ∧ W = W' :=
  (over_any W b m false h.bench).mono fun e W' hg => hg
theorem StB.cmp (h : StB b m base W l) (hx : (ax, cx, xs) ∈ l) (hy : (ay, cy, ys) ∈ l) (hn : V xs = n) (hk : V ys = k) :
    Calls Tryz.prog 70 #[.slice ax xs.length cx, .slice ay ys.length cy] W fun e W' => e = .returned (.int .i64 (cmpI n k)) ∧ Hid (StB b m base W' l) := by
  subst hn hk
  refine (Cmp_any ax ay xs ys cx cy W (h.num hx).lim (h.num hy).lim (h.num hx).reads (h.num hy).reads (by have := h.len hx; omega) (h.num hx).le (h.num hx).cap (h.num hy).le (h.num hy).cap).mono ?_
  rintro e W' ⟨rfl, hb⟩
  exact ⟨rfl, Lib.hid (h.kept hb)⟩
theorem StB.zero (h : StB b m base W l) : StB b m base W ((none, 0, []) :: l) := h.cons ((NumAt.zero W).inn (by simp [L_zero])) (by simp)
end
theorem L_add {n k a b : Nat} (h1 : (L n).length ≤ a) (h2 : (L k).length ≤ b) : (L (n + k)).length ≤ max a b + 1 := by
  rw [L_len] at *
  have p1 : 4294967296 ^ a ≤ 4294967296 ^ max a b := Nat.pow_le_pow_right (by omega) (by omega)
  have p2 : 4294967296 ^ b ≤ 4294967296 ^ max a b := Nat.pow_le_pow_right (by omega) (by omega)
  rw [Nat.pow_succ]
  omega
theorem L_mul {n k a b : Nat} (h1 : (L n).length ≤ a) (h2 : (L k).length ≤ b) : (L (n * k)).length ≤ a + b := by
  rw [L_len] at *
  rw [Nat.pow_add]
  exact Nat.mul_lt_mul'' h1 h2
theorem L_le {n k a : Nat} (h1 : (L n).length ≤ a) (h : k ≤ n) : (L k).length ≤ a := Nat.le_trans (rep_len_mono (by omega) h) h1
theorem L_gcd {n k a b : Nat} (h1 : (L n).length ≤ a) (h2 : (L k).length ≤ b) : (L (Nat.gcd n k)).length ≤ max a b := by
  rcases Nat.eq_zero_or_pos n with h | h
  · subst h; rw [Nat.gcd_zero_left]; omega
  · have := L_le h1 (Nat.le_of_dvd h (Nat.gcd_dvd_left n k)); omega
theorem V_len {xs : List Nat} {a : Nat} (h : Lim xs) (hl : xs.length ≤ a) : (L (V xs)).length ≤ a := Nat.le_trans (cutAt_len xs h) hl
end Go.Proofs.YtpjeecahaeaajaaGreatDoor

set_option linter.unusedVariables false
set_option linter.unusedSimpArgs false
namespace Go.Proofs.YtpjeecahaeaajaaGreatDoor
open Go.RowKit Rep
structure NumE (w : World) (a : Option Addr) (len c n : Nat) : Prop where
  ex : ∃ xs : List Nat, xs.length = len ∧ V xs = n ∧ NumIn w a c xs
theorem NumE.kept {w w' : World} {a : Option Addr} {len c n : Nat} (h : NumE w a len c n) (hb : Below w.heap.size w w') : NumE w' a len c n := by
  obtain ⟨xs, h1, h2, h3⟩ := h.ex
  exact ⟨xs, h1, h2, h3.kept hb⟩
theorem NumE.of {w : World} {a : Option Addr} {c n : Nat} (h : NumAt w a c n) (hl : (L n).length ≤ 1073741824) : NumE w a (L n).length c n := ⟨L n, rfl, V_L n, h.inn hl⟩
theorem NumE.inn {w : World} {a : Option Addr} {c : Nat} {xs : List Nat} (h : NumIn w a c xs) : NumE w a xs.length c (V xs) := ⟨xs, rfl, rfl, h⟩
theorem NumE.lenL {w : World} {a : Option Addr} {len c n : Nat} (h : NumE w a len c n) : (L n).length ≤ len := by
  obtain ⟨xs, rfl, rfl, h3⟩ := h.ex
  exact cutAt_len xs h3.lim
theorem NumE.zero (w : World) : NumE w none 0 0 0 := ⟨[], rfl, rfl, (NumAt.zero w).inn (by simp [L_zero])⟩
theorem NumE.one (w : World) : NumE (w.alloc (.cells #[.int .u32 1] 68)) (some ⟨w.heap.size, 0, none⟩) 1 1 1 := ⟨[1], rfl, rfl, limbs1 w 1 (by omega)⟩
def GivesE (k n : Nat) (w : World) (e : Ending) (w' : World) : Prop := ∃ a len c, e = .returned (.slice a len c) ∧ NumE w' a len c n ∧ len ≤ k ∧ Below w.heap.size w w'
def GivesB (v : Bool) (w : World) (e : Ending) (w' : World) : Prop := e = .returned (.bool v) ∧ Below w.heap.size w w'
theorem cmpE {w : World} {a b : Option Addr} {la lb ca cb n k : Nat} (h1 : NumE w a la ca n) (h2 : NumE w b lb cb k) : Calls Tryz.prog 70 #[.slice a la ca, .slice b lb cb] w (GivesInt (cmpI n k) w) := by
  obtain ⟨xs, rfl, rfl, hx⟩ := h1.ex
  obtain ⟨ys, rfl, rfl, hy⟩ := h2.ex
  exact Cmp_any a b xs ys ca cb w hx.lim hy.lim hx.reads hy.reads hx.len hx.le hx.cap hy.le hy.cap
theorem cmp_ne {n k : Nat} (h : n ≠ k) : ((cmpI (n : Int) (k : Int)) == 0) = false := by
  unfold cmpI
  by_cases h1 : n < k
  · rw [if_pos (by omega)]; rfl
  · rw [if_neg (by omega), if_neg (by omega)]; rfl
set_option maxRecDepth 100000 in
set_option maxHeartbeats 400000 in
theorem isZero_any {w : World} {a : Option Addr} {len c n : Nat} (h : NumE w a len c n) : Calls Tryz.prog 63 #[.slice a len c] w (GivesB (decide (n = 0)) w) := by
  have HC := Lib.hid (cmpE h (NumE.zero w))
  clear h
  by_cases hn : n = 0
  · rw [hn, cmpI_self] at HC
    rw [decide_eq_true hn]
    clear hn
    go_enter Tryz.func63, Tryz.ntmps63
    go_wp2_with fail
    refine HC.out.mono ?_
    rintro e w2 ⟨rfl, hb⟩
    have HB := Lib.hid hb
    clear hb HC
    go_wp2_with fail
    go_ret
    exact ⟨rfl, HB.out⟩
  · have hz := cmp_ne hn
    rw [decide_eq_false hn]
    generalize cmpI (n : Int) ((0 : Nat) : Int) = cm at *
    clear hn
    go_enter Tryz.func63, Tryz.ntmps63
    go_wp2_with fail
    refine HC.out.mono ?_
    rintro e w2 ⟨rfl, hb⟩
    have HB := Lib.hid hb
    clear hb HC
    go_wp2_with fail
    go_ret
    exact ⟨rfl, HB.out⟩
set_option maxRecDepth 100000 in
set_option maxHeartbeats 400000 in
theorem isOne_any {w : World} {a : Option Addr} {len c n : Nat} (h : NumE w a len c n) : Calls Tryz.prog 62 #[.slice a len c] w (GivesB (decide (n = 1)) w) := by
  have hb0 : Below w.heap.size w (w.alloc (.cells #[.int .u32 1] 68)) := (Below.refl _ _).alloc (Nat.le_refl _) _
  have HC := Lib.hid (cmpE (h.kept hb0) (NumE.one w))
  have HB0 := Lib.hid hb0
  clear h hb0
  by_cases hn : n = 1
  · rw [hn, cmpI_self] at HC
    rw [decide_eq_true hn]
    clear hn
    go_enter Tryz.func62, Tryz.ntmps62
    go_wp2_with fail
    refine HC.out.mono ?_
    rintro e w2 ⟨rfl, hb⟩
    have HB := Lib.hid (HB0.out.trans (hb.mono HB0.out.size))
    clear hb HC
    go_wp2_with fail
    go_ret
    exact ⟨rfl, HB.out⟩
  · have hz := cmp_ne hn
    rw [decide_eq_false hn]
    generalize cmpI (n : Int) ((1 : Nat) : Int) = cm at *
    clear hn
    go_enter Tryz.func62, Tryz.ntmps62
    go_wp2_with fail
    refine HC.out.mono ?_
    rintro e w2 ⟨rfl, hb⟩
    have HB := Lib.hid (HB0.out.trans (hb.mono HB0.out.size))
    clear hb HC
    go_wp2_with fail
    go_ret
    exact ⟨rfl, HB.out⟩
abbrev wayW (w : World) : World := w.alloc (.cells #[.int .i64 2147483647, .bool false] 70)
theorem wayW_below (w : World) : Below w.heap.size w (wayW w) := (Below.refl _ _).alloc (Nat.le_refl _) _
theorem wayW_bench (w : World) : Bench (wayW w) w.heap.size 2147483647 false := heap_alloc_new w _
set_option maxRecDepth 100000 in
set_option maxHeartbeats 400000 in
theorem unbounded_any (w : World) : Calls Tryz.prog 56 #[] w fun e w' => e = .returned (.pointer (some ⟨w.heap.size, 0, none⟩)) ∧ w' = wayW w := by
  have HN := Lib.hid (new_high 2147483647 w (by omega) (by unfold maxLen; omega))
  go_enter Tryz.func56, Tryz.ntmps56
  go_wp2_with fail
  refine HN.out.mono ?_
  rintro e w2 ⟨rfl, rfl⟩
  go_wp2_with fail
  go_ret
  exact ⟨rfl, rfl⟩
theorem wayE {w W w' : World} {e : Ending} {n k : Nat} (hW : Below w.heap.size w W) (hg : GivesOut W.heap.size 2147483647 false n (wayW W) e w') (hl : (L n).length ≤ k) (hk : k ≤ 2000000) : GivesE k n w e w' := by
  obtain ⟨a, c, rfl, hat, hb, hgr⟩ := hg
  have ho : outO 2147483647 false n = false := by simp [outO]; omega
  have hN : outN 2147483647 false n = n := by unfold outN; rw [ho]; rfl
  rw [hN] at hat ⊢
  have hB : Below W.heap.size W w' := (wayW_below W).grown hgr (by simp) (fun k hk => by cases hk; exact Nat.le_refl _)
  exact ⟨a, _, c, rfl, NumE.of hat (by omega), hl, hW.trans (hB.mono hW.size)⟩
theorem gcdE {w W : World} {a b : Option Addr} {la lb ca cb n k : Nat} (h1 : NumE w a la ca n) (h2 : NumE w b lb cb k) (hT : Tab w) (hW : Below w.heap.size w W) (hl1 : la ≤ 2000000) (hl2 : lb ≤ 2000000) :
    Calls Tryz.prog 79 #[.pointer (some ⟨W.heap.size, 0, none⟩), .slice a la ca, .slice b lb cb] (wayW W) (GivesE (max la lb) (Nat.gcd n k) w) := by
  have hk1 := L_gcd h1.lenL h2.lenL
  obtain ⟨xs, rfl, rfl, hx⟩ := h1.ex
  obtain ⟨ys, rfl, rfl, hy⟩ := h2.ex
  exact (Gcd_any W.heap.size 2147483647 a b xs ys ca cb (wayW W) false (wayW_bench W) ((hx.kept hW).kept (wayW_below W)) ((hy.kept hW).kept (wayW_below W)) ((hT.kept hW).kept (wayW_below W)) hl1 hl2).mono fun e w' hg => wayE hW hg hk1 (by omega)
set_option maxRecDepth 100000 in
set_option maxHeartbeats 1000000 in
theorem common_any {w : World} {a b : Option Addr} {la lb ca cb n k : Nat} (h1 : NumE w a la ca n) (h2 : NumE w b lb cb k) (hT : Tab w) (hl1 : la ≤ 2000000) (hl2 : lb ≤ 2000000) :
    Calls Tryz.prog 54 #[.slice a la ca, .slice b lb cb] w (GivesE (max la lb + 1) (Nat.gcd n k) w) := by
  have HI1 := Lib.hid (isOne_any h1)
  have HI2 := Lib.hid (fun (W : World) (h : Below w.heap.size w W) => isOne_any (h2.kept h))
  have HG := Lib.hid (fun (W : World) (h : Below w.heap.size w W) => gcdE h1 h2 hT h hl1 hl2)
  clear h1 h2 hT
  by_cases c1 : n = 1
  · have hG : Nat.gcd n k = 1 := by rw [c1, Nat.gcd_one_left]
    rw [decide_eq_true c1] at HI1
    rw [hG]
    clear hG c1 HI2 HG
    go_enter Tryz.func54, Tryz.ntmps54
    go_wp2_with fail
    refine HI1.out.mono ?_
    rintro e w2 ⟨rfl, hb⟩
    have HE := Lib.hid (And.intro (NumE.one w2) (hb.alloc hb.size (.cells #[.int .u32 1] 68)))
    clear hb HI1
    go_wp2_with fail
    go_ret
    exact ⟨_, 1, 1, rfl, HE.out.1, by omega, HE.out.2⟩
  · rw [decide_eq_false c1] at HI1
    by_cases c2 : k = 1
    · have hG : Nat.gcd n k = 1 := by rw [c2, Nat.gcd_one_right]
      rw [decide_eq_true c2] at HI2
      rw [hG]
      clear hG c1 c2 HG
      go_enter Tryz.func54, Tryz.ntmps54
      go_wp2_with fail
      refine HI1.out.mono ?_
      rintro e w2 ⟨rfl, hb⟩
      have HB := Lib.hid hb
      clear hb HI1
      go_wp2_with fail
      refine (HI2.out w2 HB.out).mono ?_
      rintro e w3 ⟨rfl, hb3⟩
      have HE := Lib.hid (And.intro (NumE.one w3) ((HB.out.trans (hb3.mono HB.out.size)).alloc (Nat.le_trans HB.out.size hb3.size) (.cells #[.int .u32 1] 68)))
      clear hb3 HI2 HB
      go_wp2_with fail
      go_ret
      exact ⟨_, 1, 1, rfl, HE.out.1, by omega, HE.out.2⟩
    · rw [decide_eq_false c2] at HI2
      generalize Nat.gcd n k = G at *
      clear c1 c2
      go_enter Tryz.func54, Tryz.ntmps54
      go_wp2_with fail
      refine HI1.out.mono ?_
      rintro e w2 ⟨rfl, hb⟩
      have HB := Lib.hid hb
      clear hb HI1
      go_wp2_with fail
      refine (HI2.out w2 HB.out).mono ?_
      rintro e w3 ⟨rfl, hb3⟩
      have HG2 := Lib.hid (HG.out w3 (HB.out.trans (hb3.mono HB.out.size)))
      clear hb3 HI2 HB HG
      go_wp2_with fail
      refine (unbounded_any w3).mono ?_
      rintro e w4 ⟨rfl, rfl⟩
      go_wp2_with fail
      refine HG2.out.mono ?_
      rintro e w5 ⟨a5, l5, c5, rfl, hn, hl, hb⟩
      have HE := Lib.hid (And.intro hn (And.intro hl hb))
      clear hn hl hb HG2
      go_wp2_with fail
      go_ret
      exact ⟨a5, l5, c5, rfl, HE.out.1, by have := HE.out.2.1; omega, HE.out.2.2⟩
set_option maxRecDepth 100000 in
set_option maxHeartbeats 1000000 in
theorem without_any {w : World} {a b : Option Addr} {la lb ca cb n k : Nat} (h1 : NumE w a la ca n) (h2 : NumE w b lb cb k) (hl1 : la ≤ 2000000) :
    Calls Tryz.prog 55 #[.slice a la ca, .slice b lb cb] w (GivesE la (n / k) w) := by
  have HI2 := Lib.hid (isOne_any h2)
  by_cases c2 : k = 1
  · have hq : n / k = n := by rw [c2, Nat.div_one]
    have H1 := Lib.hid h1
    rw [hq]
    rw [decide_eq_true c2] at HI2
    clear c2 hq h1 h2
    go_enter Tryz.func55, Tryz.ntmps55
    go_wp2_with fail
    refine HI2.out.mono ?_
    rintro e w2 ⟨rfl, hb⟩
    have HE := Lib.hid (And.intro (H1.out.kept hb) hb)
    clear hb HI2 H1
    go_wp2_with fail
    go_ret
    exact ⟨a, la, ca, rfl, HE.out.1, Nat.le_refl _, HE.out.2⟩
  · have hll := h1.lenL
    have HD : Hid (∀ W, Below w.heap.size w W → Calls Tryz.prog 80 #[.pointer (some ⟨W.heap.size, 0, none⟩), .slice a la ca, .slice b lb cb] (wayW W) fun e w' => ∃ aq lq cq vr, e = .returned (.tuple #[.slice aq lq cq, vr]) ∧ Hid (NumE w' aq lq cq (n / k) ∧ lq ≤ la ∧ Below w.heap.size w w')) := Lib.hid (by
      intro W hW
      obtain ⟨xs, rfl, rfl, hx⟩ := h1.ex
      obtain ⟨ys, rfl, rfl, hy⟩ := h2.ex
      refine (Div_any W.heap.size 2147483647 a b xs ys ca cb (wayW W) false (wayW_bench W) ((hx.kept hW).kept (wayW_below W)) ((hy.kept hW).kept (wayW_below W)) hl1).mono ?_
      rintro e w' ⟨a1, c1, a2, c2, rfl, n1, n2, hb, hgr⟩
      have l1 : (L (V xs / V ys)).length ≤ xs.length := L_le hll (Nat.div_le_self _ _)
      have l2 : (L (remN (V xs) (V ys))).length ≤ xs.length := L_le hll (remN_le _ _)
      have hd : divO 2147483647 false (V xs / V ys) (remN (V xs) (V ys)) = false := by simp [divO]; omega
      simp only [hd, Bool.false_eq_true, if_false] at n1 n2 ⊢
      have hB : Below W.heap.size W w' := (wayW_below W).grown hgr (by simp) (fun k hk => by cases hk; exact Nat.le_refl _)
      exact ⟨a1, _, c1, _, rfl, Lib.hid ⟨NumE.of n1 (by omega), l1, hW.trans (hB.mono hW.size)⟩⟩)
    rw [decide_eq_false c2] at HI2
    clear c2 h1 h2 hll
    generalize n / k = q at *
    go_enter Tryz.func55, Tryz.ntmps55
    go_wp2_with fail
    refine HI2.out.mono ?_
    rintro e w2 ⟨rfl, hb⟩
    have HD2 := Lib.hid (HD.out w2 hb)
    clear hb HI2 HD
    go_wp2_with fail
    refine (unbounded_any w2).mono ?_
    rintro e w4 ⟨rfl, rfl⟩
    go_wp2_with fail
    refine HD2.out.mono ?_
    rintro e w5 ⟨aq, lq, cq, vr, rfl, HE⟩
    clear HD2
    go_wp2_with fail
    go_ret
    exact ⟨aq, lq, cq, rfl, HE.out.1, HE.out.2.1, HE.out.2.2⟩
def GivesC (k1 k2 n1 n2 : Nat) (w : World) (e : Ending) (w' : World) : Prop :=
  ∃ a1 l1 c1 a2 l2 c2, e = .returned (.tuple #[.slice a1 l1 c1, .slice a2 l2 c2]) ∧ NumE w' a1 l1 c1 n1 ∧ NumE w' a2 l2 c2 n2 ∧ l1 ≤ k1 ∧ l2 ≤ k2 ∧ Below w.heap.size w w'
set_option maxRecDepth 100000 in
set_option maxHeartbeats 1000000 in
theorem cancel_any {w : World} {a b : Option Addr} {la lb ca cb n k : Nat} (h1 : NumE w a la ca n) (h2 : NumE w b lb cb k) (hT : Tab w) (hl1 : la ≤ 2000000) (hl2 : lb ≤ 2000000) :
    Calls Tryz.prog 59 #[.slice a la ca, .slice b lb cb] w (GivesC la lb (n / Nat.gcd n k) (k / Nat.gcd n k) w) := by
  have HC := Lib.hid (common_any h1 h2 hT hl1 hl2)
  have H := Lib.hid (And.intro h1 h2)
  clear h1 h2 hT
  generalize Nat.gcd n k = G at *
  obtain ⟨q1, hq1⟩ : ∃ q, n / G = q := ⟨_, rfl⟩
  obtain ⟨q2, hq2⟩ : ∃ q, k / G = q := ⟨_, rfl⟩
  rw [hq1, hq2]
  have HQ := Lib.hid (And.intro hq1 hq2)
  clear hq1 hq2
  go_enter Tryz.func59, Tryz.ntmps59
  go_wp2_with fail
  refine HC.out.mono ?_
  rintro e w2 ⟨a2, l2, c2, rfl, hg, _, hb⟩
  have HB := Lib.hid hb
  have HGG := Lib.hid hg
  have HW1 := Lib.hid (without_any (H.out.1.kept hb) hg hl1)
  rw [HQ.out.1] at HW1
  clear hb hg HC
  go_wp2_with fail
  refine HW1.out.mono ?_
  rintro e w3 ⟨a3, l3, c3, rfl, hn3, hl3, hb3⟩
  have hB3 := HB.out.trans (hb3.mono HB.out.size)
  have HW2 := Lib.hid (without_any (H.out.2.kept hB3) (HGG.out.kept hb3) hl2)
  rw [HQ.out.2] at HW2
  have H3 := Lib.hid (And.intro hn3 (And.intro hl3 hB3))
  clear hn3 hl3 hb3 hB3 HW1 HGG HB
  go_wp2_with fail
  refine HW2.out.mono ?_
  rintro e w4 ⟨a4, l4, c4, rfl, hn4, hl4, hb4⟩
  have HE := Lib.hid (And.intro (H3.out.1.kept hb4) (And.intro hn4 (And.intro H3.out.2.1 (And.intro hl4 (H3.out.2.2.trans (hb4.mono H3.out.2.2.size))))))
  clear hn4 hl4 hb4 HW2 H3
  go_wp2_with fail
  go_ret2
  exact ⟨a3, l3, c3, a4, l4, c4, rfl, HE.out.1, HE.out.2.1, HE.out.2.2.1, HE.out.2.2.2.1, HE.out.2.2.2.2⟩
end Go.Proofs.YtpjeecahaeaajaaGreatDoor

set_option linter.unusedVariables false
set_option linter.unusedSimpArgs false
namespace Go.Proofs.YtpjeecahaeaajaaGreatDoor
open Go.RowKit Rep
def denN (d : Nat) : Nat := if d = 1 then 0 else d
def rO (m n d : Nat) : Bool := decide (m < (L n).length) || decide (m < (L (denN d)).length)
def ratV (s : Bool) (mag den : Value) : Value := .agg #[.bool s, mag, den]
def rS (m : Nat) (s : Bool) (n d : Nat) : Bool := if rO m n d = true ∨ n = 0 then false else s
def rN (m n d : Nat) : Nat := if rO m n d = true ∨ n = 0 then 0 else n
def rD (m n d : Nat) : Nat := if rO m n d = true ∨ n = 0 then 0 else denN d
def GivesR (b m : Nat) (s : Bool) (n d : Nat) (w : World) (e : Ending) (w' : World) : Prop :=
  ∃ a1 c1 a2 c2, e = .returned (ratV (rS m s n d) (.slice a1 (L (rN m n d)).length c1) (.slice a2 (L (rD m n d)).length c2)) ∧ NumAt w' a1 c1 (rN m n d) ∧ NumAt w' a2 c2 (rD m n d) ∧ Bench w' b m (rO m n d) ∧ w.grownBy w' (some b)
theorem GivesR.none {b m n d : Nat} {s : Bool} {w w' : World} (h : rO m n d = true ∨ n = 0) (hb : Bench w' b m (rO m n d)) (hg : w.grownBy w' (some b)) :
    GivesR b m s n d w (.returned (ratV false (.slice none 0 0) (.slice none 0 0))) w' := by
  have e1 : rS m s n d = false := by unfold rS; rw [if_pos h]
  have e2 : rN m n d = 0 := by unfold rN; rw [if_pos h]
  have e3 : rD m n d = 0 := by unfold rD; rw [if_pos h]
  refine ⟨Option.none, 0, Option.none, 0, ?_, ?_, ?_, hb, hg⟩
  · rw [e1, e2, e3]; rfl
  · rw [e2]; exact NumAt.zero _
  · rw [e3]; exact NumAt.zero _
theorem GivesR.some' {b m n d : Nat} {s : Bool} {w w' : World} {a1 a2 : Option Addr} {c1 c2 : Nat} (ho : rO m n d = false) (h0 : n ≠ 0) (h1 : NumAt w' a1 c1 n) (h2 : NumAt w' a2 c2 (denN d)) (hb : Bench w' b m false) (hg : w.grownBy w' (some b)) :
    GivesR b m s n d w (.returned (ratV s (.slice a1 (L n).length c1) (.slice a2 (L (denN d)).length c2))) w' := by
  have hc : ¬ (rO m n d = true ∨ n = 0) := by rw [ho]; simp [h0]
  have e1 : rS m s n d = s := by unfold rS; rw [if_neg hc]
  have e2 : rN m n d = n := by unfold rN; rw [if_neg hc]
  have e3 : rD m n d = denN d := by unfold rD; rw [if_neg hc]
  exact ⟨a1, c1, a2, c2, by rw [e1, e2, e3], by rw [e2]; exact h1, by rw [e3]; exact h2, by rw [ho]; exact hb, hg⟩
theorem NumE.bench {w w' : World} {b m : Nat} {o : Bool} {a : Option Addr} {len c n : Nat} (h : NumE w a len c n) (hb : Bench w b m o) (hg : w.grownBy w' (some b)) : NumE w' a len c n := by
  obtain ⟨xs, h1, h2, h3⟩ := h.ex
  exact ⟨xs, h1, h2, h3.bench hb hg⟩
theorem NumAt.bench {w w' : World} {b m : Nat} {o : Bool} {a : Option Addr} {c n : Nat} (h : NumAt w a c n) (hb : Bench w b m o) (hg : w.grownBy w' (some b)) : NumAt w' a c n := ⟨h.1.grown hg (hb.apart h.1), h.2⟩
theorem tellE {w : World} {b m : Nat} {o : Bool} {a : Option Addr} {len c n : Nat} (hb : Bench w b m o) (h : NumE w a len c n) :
    Calls Tryz.prog 73 #[.pointer (some ⟨b, 0, none⟩), .slice a len c, .slice none 0 0] w (GivesOut b m o n w) := by
  obtain ⟨xs, rfl, rfl, hx⟩ := h.ex
  exact Add_any b m a none xs [] c 0 w o hb hx ((NumAt.zero w).inn (by simp [L_zero]))
def set3 (W : World) (r : Nat) (s : Bool) (v1 v2 : Value) : World := ((W.setCell ⟨r, 0, none⟩ (.bool s)).setCell ⟨r, 1, none⟩ v1).setCell ⟨r, 2, none⟩ v2
def RatBlock (W : World) (r : Nat) : Prop := ∃ s : Bool, ∃ x1 x2 x3 y1 y2 y3, W.heap[r]? = some (.cells #[.bool s, .slice x1 x2 x3, .slice y1 y2 y3] 27 (0, 0))
theorem RatBlock.apart {W : World} {r : Nat} (h : RatBlock W r) {a : Option Addr} {xs : List Nat} (hr : Reads W a (xs.map u32v)) : xs.map u32v = [] ∨ ∀ g off, a = some ⟨g, off, none⟩ → some g ≠ some r := by
  obtain ⟨s, x1, x2, x3, y1, y2, y3, hh⟩ := h
  rcases hr with hr | ⟨g, off, rfl, hr⟩
  · exact .inl hr
  · by_cases e : xs = []
    · exact .inl (by simp [e])
    · refine .inr fun g' off' hg hb => ?_
      simp at hg hb
      obtain ⟨rfl, rfl⟩ := hg
      subst hb
      have := hr 0 _ (map_getElem? (by cases xs; exact absurd rfl e; simp))
      simp only [World.cell?, hh] at this
      rcases off with _ | _ | _ | off <;> simp [u32v] at this
theorem set3_grown (W : World) (r : Nat) (s : Bool) (v1 v2 : Value) : W.grownBy (set3 W r s v1 v2) (some r) := grownBy_set (grownBy_set (grownBy_set (grown_refl W _)))
theorem NumAt.set3 {W : World} {r : Nat} {a : Option Addr} {c n : Nat} (h : NumAt W a c n) (hb : RatBlock W r) (s : Bool) (v1 v2 : Value) : NumAt (Go.Proofs.YtpjeecahaeaajaaGreatDoor.set3 W r s v1 v2) a c n := ⟨h.1.grown (set3_grown W r s v1 v2) (hb.apart h.1), h.2⟩
theorem Bench.set3 {W : World} {b m r : Nat} {o : Bool} (h : Bench W b m o) (hne : b ≠ r) (s : Bool) (v1 v2 : Value) : Bench (Go.Proofs.YtpjeecahaeaajaaGreatDoor.set3 W r s v1 v2) b m o := h.of_block ((set3_grown W r s v1 v2).block b h.lt (by simpa using hne))
theorem grown_set3 {w W : World} {b r : Nat} (h : w.grownBy W (some b)) (hr : w.heap.size ≤ r) (s : Bool) (v1 v2 : Value) : w.grownBy (Go.Proofs.YtpjeecahaeaajaaGreatDoor.set3 W r s v1 v2) (some b) := by
  have hg := set3_grown W r s v1 v2
  exact ⟨hg.os.trans h.os, hg.tape.trans h.tape, hg.output.trans h.output, Nat.le_trans h.size hg.size, fun k hk hne => (hg.block k (Nat.lt_of_lt_of_le hk h.size) (by simp; omega)).trans (h.block k hk hne)⟩
theorem fit_calls {w W : World} {b m : Nat} {s : Bool} {a1 a2 : Option Addr} {l1 c1 l2 c2 n d k : Nat} (hk : k = denN d) (hW : w.grownBy W (some b)) (hb : Bench W b m false) (h1 : NumE W a1 l1 c1 n) (h2 : NumE W a2 l2 c2 k) (hr : w.heap.size < W.heap.size) (hrb : w.heap.size ≠ b) (hl1 : l1 ≤ 2000000) (hl2 : l2 ≤ 2000000) :
    Calls Tryz.prog 73 #[.pointer (some ⟨b, 0, none⟩), .slice a1 l1 c1, .slice none 0 0] W fun e W2 => ∃ a3 l3 c3, e = .returned (.slice a3 l3 c3) ∧
      Hid (Calls Tryz.prog 73 #[.pointer (some ⟨b, 0, none⟩), .slice a2 l2 c2, .slice none 0 0] W2 fun e W3 => ∃ a4 l4 c4, e = .returned (.slice a4 l4 c4) ∧ Hid (Bench W3 b m (rO m n d) ∧ w.grownBy W3 (some b) ∧ W3.heap[w.heap.size]? = W.heap[w.heap.size]? ∧
        (rO m n d = false → l3 = (L n).length ∧ l4 = (L (denN d)).length ∧ NumAt W3 a3 c3 n ∧ NumAt W3 a4 c4 (denN d) ∧ NumE W3 a3 l3 c3 n))) := by
  refine (tellE hb h1).mono ?_
  rintro e W2 ⟨a3, c3, rfl, n3, b3, g3⟩
  refine ⟨a3, _, c3, rfl, Lib.hid ?_⟩
  have hll := h1.lenL
  refine (tellE b3 (h2.bench hb g3)).mono ?_
  rintro e W3 ⟨a4, c4, rfl, n4, b4, g4⟩
  have hoo : outO m (outO m false n) k = rO m n d := by rw [hk]; simp [outO, rO]
  rw [hoo] at b4
  refine ⟨a4, _, c4, rfl, Lib.hid ⟨b4, grownBy_trans_new (grownBy_trans_new hW g3) g4, ?_, fun ho => ?_⟩⟩
  · rw [g4.block _ (Nat.lt_of_lt_of_le hr g3.size) (by simpa using hrb), g3.block _ hr (by simpa using hrb)]
  · have h3 : outO m false n = false := by
      unfold rO at ho; simp only [Bool.or_eq_false_iff] at ho; unfold outO; simpa using ho.1
    have e3 : outN m false n = n := by unfold outN; rw [h3]; rfl
    have e4 : outN m (outO m false n) k = denN d := by unfold outN; rw [hoo, ho, hk]; rfl
    rw [e3] at n3 ⊢
    rw [e4] at n4 ⊢
    have n3' := n3.bench b3 g4
    exact ⟨rfl, rfl, n3', n4, NumE.of n3' (by omega)⟩
set_option maxRecDepth 100000 in
set_option maxHeartbeats 2000000 in
theorem fit_ratio (b m : Nat) (s : Bool) (a1 a2 : Option Addr) (l1 c1 l2 c2 n d : Nat) (w : World) (hb : Bench w b m false) (h1 : NumE w a1 l1 c1 n) (h2 : NumE w a2 l2 c2 d) (hl1 : l1 ≤ 2000000) (hl2 : l2 ≤ 2000000) :
    Calls Tryz.prog 60 #[.pointer (some ⟨b, 0, none⟩), .bool s, .slice a1 l1 c1, .slice a2 l2 c2] w (GivesR b m s n d w) := by
  obtain ⟨W0, hW0⟩ : ∃ W0, W0 = w.alloc (.cells #[.bool false, .slice none 0 0, .slice none 0 0] 27) := ⟨_, rfl⟩
  have hB0 : Below w.heap.size w W0 := by rw [hW0]; exact (Below.refl _ _).alloc (Nat.le_refl _) _
  have hr0 : W0.heap[w.heap.size]? = some (.cells #[.bool false, .slice none 0 0, .slice none 0 0] 27 (0, 0)) := by rw [hW0]; exact heap_alloc_new w _
  have hs0 : w.heap.size < W0.heap.size := by rw [hW0]; simp
  have hrb : w.heap.size ≠ b := by have := hb.lt; omega
  have HI := Lib.hid (isOne_any (h2.kept hB0))
  have HC : Hid (∀ W1, Below W0.heap.size W0 W1 → ∀ a3 l3 c3, NumE W1 a3 l3 c3 (denN d) → l3 ≤ 2000000 → _) := Lib.hid (fun (W1 : World) (hb1 : Below W0.heap.size W0 W1) (a3 : Option Addr) (l3 c3 : Nat) (h3 : NumE W1 a3 l3 c3 (denN d)) (hl3 : l3 ≤ 2000000) =>
    fit_calls (s := s) (w := w) (W := W1) (n := n) (d := d) (a2 := a3) (l2 := l3) (c2 := c3) rfl (grown_of_below (hB0.trans (hb1.mono (Nat.le_of_lt hs0))) _) ((hb.kept hB0).kept hb1) ((h1.kept hB0).kept hb1) h3 (Nat.lt_of_lt_of_le hs0 hb1.size) hrb hl1 hl3)
  have HR0 := Lib.hid hr0
  have H2 := Lib.hid (And.intro (h2.kept hB0) hs0)
  have HW0 := Lib.hid hW0
  have HZ : Hid (∀ W2 W3 : World, (W3.heap[w.heap.size]? = W2.heap[w.heap.size]?) → Below W0.heap.size W0 W2 → (∀ i, i < 3 → ∃ u, W3.cell? ⟨w.heap.size, i, none⟩ = some u) ∧ (∀ i, W3.frozen? ⟨w.heap.size, i, none⟩ = false) ∧ W3.heap[w.heap.size]? = some (.cells #[.bool false, .slice none 0 0, .slice none 0 0] 27 (0, 0))) := Lib.hid (by
    intro W2 W3 h hb
    have h3 : W3.heap[w.heap.size]? = some (.cells #[.bool false, .slice none 0 0, .slice none 0 0] 27 (0, 0)) := by rw [h, hb.block _ hs0]; exact hr0
    refine ⟨fun i hi => ?_, fun i => by simp [World.frozen?, h3], h3⟩
    simp only [World.cell?, h3]
    rcases i with _ | _ | _ | i
    · exact ⟨_, rfl⟩
    · exact ⟨_, rfl⟩
    · exact ⟨_, rfl⟩
    · omega)
  clear hb h1 h2 hB0 hr0 hs0
  by_cases hd : d = 1
  · rw [decide_eq_true hd] at HI
    have hdn : denN d = 0 := by unfold denN; rw [if_pos hd]
    have HDN := Lib.hid hdn
    clear hd hdn hW0
    go_enter Tryz.func60, Tryz.ntmps60
    go_wp2_with fail
    rw [← HW0.out]
    refine HI.out.mono ?_
    rintro e w2 ⟨rfl, hb2⟩
    have HB2 := Lib.hid hb2
    have HC2 := Lib.hid (HC.out w2 hb2 none 0 0 (by rw [HDN.out]; exact NumE.zero _) (by omega))
    clear hb2 HI HC
    go_wp2_with fail
    refine HC2.out.mono ?_
    rintro e w3 ⟨a3, l3, c3, rfl, HD⟩
    clear HC2
    go_wp2_with fail
    refine HD.out.mono ?_
    rintro e w4 ⟨a4, l4, c4, rfl, HE⟩
    clear HD
    obtain ⟨hcl, hfr, hbl⟩ := HZ.out w2 w4 HE.out.2.2.1 HB2.out
    have hc0 : w4.cell? ⟨w.heap.size, 0, none⟩ = some (.bool false) := by simp [World.cell?, hbl]
    have hc1 : w4.cell? ⟨w.heap.size, 1, none⟩ = some (.slice none 0 0) := by simp [World.cell?, hbl]
    have hc2 : w4.cell? ⟨w.heap.size, 2, none⟩ = some (.slice none 0 0) := by simp [World.cell?, hbl]
    have hf0 := hfr 0
    have hf1 := hfr 1
    have hf2 := hfr 2
    have HBL : Hid (RatBlock w4 w.heap.size) := Lib.hid ⟨_, _, _, _, _, _, _, hbl⟩
    clear hcl hfr hbl HZ
    have HOV := Lib.hid (over_any w4 b m (rO m n d) HE.out.1)
    by_cases ho : rO m n d = true
    · rw [ho] at HOV
      have HX : Hid (GivesR b m s n d w (.returned (ratV false (.slice none 0 0) (.slice none 0 0))) (set3 w4 w.heap.size false (.slice none 0 0) (.slice none 0 0))) := Lib.hid (GivesR.none (.inl ho) (HE.out.1.set3 (Ne.symm hrb) _ _ _) (grown_set3 HE.out.2.1 (Nat.le_refl _) _ _ _))
      clear ho HE HBL
      go_wp2_with fail
      refine HOV.out.mono ?_
      rintro e w5 ⟨rfl, rfl⟩
      go_wp2_with fail
      exact bodyPost_ret (v := ratV false (.slice none 0 0) (.slice none 0 0)) (by simp [results, Tryz.results60, go_sem, ratV, hc0, hc1, hc2]) rfl HX.out
    · have ho2 : rO m n d = false := by simpa using ho
      rw [ho2] at HOV
      obtain ⟨e3, e4, n3, n4, ne⟩ := HE.out.2.2.2 ho2
      have HIZ := Lib.hid (isZero_any ne)
      by_cases h0 : n = 0
      · rw [decide_eq_true h0] at HIZ
        have HX : Hid (∀ w6, Below w4.heap.size w4 w6 → GivesR b m s n d w (.returned (ratV false (.slice none 0 0) (.slice none 0 0))) (set3 w6 w.heap.size false (.slice none 0 0) (.slice none 0 0))) := Lib.hid fun w6 h6 => GivesR.none (.inr h0) ((HE.out.1.kept h6).set3 (Ne.symm hrb) _ _ _) (grown_set3 (grownBy_trans_new HE.out.2.1 (grown_of_below h6 _)) (Nat.le_refl _) _ _ _)
        have HK : Hid (∀ w6, Below w4.heap.size w4 w6 → ∀ i, w6.cell? ⟨w.heap.size, i, none⟩ = w4.cell? ⟨w.heap.size, i, none⟩ ∧ w6.frozen? ⟨w.heap.size, i, none⟩ = w4.frozen? ⟨w.heap.size, i, none⟩) := Lib.hid fun w6 h6 i => by
          have hlt : w.heap.size < w4.heap.size := by obtain ⟨_, _, _, _, _, _, _, hh⟩ := HBL.out; exact (Array.getElem?_eq_some_iff.1 hh).1
          exact ⟨h6.cell hlt, h6.frozen (p := ⟨w.heap.size, i, none⟩) hlt⟩
        clear ho ho2 h0 e3 e4 n3 n4 ne HE HBL
        go_wp2_with fail
        refine HOV.out.mono ?_
        rintro e w5 ⟨rfl, rfl⟩
        go_wp2_with fail
        refine HIZ.out.mono ?_
        rintro e w6 ⟨rfl, hb6⟩
        have HX2 := Lib.hid (HX.out w6 hb6)
        have k0 := (HK.out w6 hb6 0).1.trans hc0
        have k1 := (HK.out w6 hb6 1).1.trans hc1
        have k2 := (HK.out w6 hb6 2).1.trans hc2
        have j0 := (HK.out w6 hb6 0).2.trans hf0
        have j1 := (HK.out w6 hb6 1).2.trans hf1
        have j2 := (HK.out w6 hb6 2).2.trans hf2
        clear hb6 HX HK HIZ hc0 hc1 hc2 hf0 hf1 hf2
        go_wp2_with fail
        exact bodyPost_ret (v := ratV false (.slice none 0 0) (.slice none 0 0)) (by simp [results, Tryz.results60, go_sem, ratV, k0, k1, k2]) rfl HX2.out
      · rw [decide_eq_false h0] at HIZ
        have HX : Hid (∀ w6, Below w4.heap.size w4 w6 → GivesR b m s n d w (.returned (ratV s (.slice a3 l3 c3) (.slice a4 l4 c4))) (set3 w6 w.heap.size s (.slice a3 l3 c3) (.slice a4 l4 c4))) := Lib.hid fun w6 h6 => by
          have hb6 : RatBlock w6 w.heap.size := by
            obtain ⟨x, x1, x2, x3, y1, y2, y3, hh⟩ := HBL.out
            exact ⟨x, x1, x2, x3, y1, y2, y3, (h6.block _ (Array.getElem?_eq_some_iff.1 hh).1).trans hh⟩
          have hbe := HE.out.1
          rw [ho2] at hbe
          rw [e3, e4]
          exact GivesR.some' ho2 h0 ((n3.kept h6).set3 hb6 _ _ _) ((n4.kept h6).set3 hb6 _ _ _) ((hbe.kept h6).set3 (Ne.symm hrb) _ _ _) (grown_set3 (grownBy_trans_new HE.out.2.1 (grown_of_below h6 _)) (Nat.le_refl _) _ _ _)
        have HK : Hid (∀ w6, Below w4.heap.size w4 w6 → ∀ i, w6.cell? ⟨w.heap.size, i, none⟩ = w4.cell? ⟨w.heap.size, i, none⟩ ∧ w6.frozen? ⟨w.heap.size, i, none⟩ = w4.frozen? ⟨w.heap.size, i, none⟩) := Lib.hid fun w6 h6 i => by
          have hlt : w.heap.size < w4.heap.size := by obtain ⟨_, _, _, _, _, _, _, hh⟩ := HBL.out; exact (Array.getElem?_eq_some_iff.1 hh).1
          exact ⟨h6.cell hlt, h6.frozen (p := ⟨w.heap.size, i, none⟩) hlt⟩
        clear ho ho2 h0 e3 e4 n3 n4 ne HE HBL
        go_wp2_with fail
        refine HOV.out.mono ?_
        rintro e w5 ⟨rfl, rfl⟩
        go_wp2_with fail
        refine HIZ.out.mono ?_
        rintro e w6 ⟨rfl, hb6⟩
        have HX2 := Lib.hid (HX.out w6 hb6)
        have k0 := (HK.out w6 hb6 0).1.trans hc0
        have k1 := (HK.out w6 hb6 1).1.trans hc1
        have k2 := (HK.out w6 hb6 2).1.trans hc2
        have j0 := (HK.out w6 hb6 0).2.trans hf0
        have j1 := (HK.out w6 hb6 1).2.trans hf1
        have j2 := (HK.out w6 hb6 2).2.trans hf2
        clear hb6 HX HK HIZ hc0 hc1 hc2 hf0 hf1 hf2
        go_wp2_with fail
        exact bodyPost_ret (v := ratV s (.slice a3 l3 c3) (.slice a4 l4 c4)) (by simp [results, Tryz.results60, go_sem, ratV, k0, k1, k2]) rfl HX2.out
  · rw [decide_eq_false hd] at HI
    have hdn : denN d = d := by unfold denN; rw [if_neg hd]
    have HDN := Lib.hid hdn
    clear hd hdn hW0
    go_enter Tryz.func60, Tryz.ntmps60
    go_wp2_with fail
    rw [← HW0.out]
    refine HI.out.mono ?_
    rintro e w2 ⟨rfl, hb2⟩
    have HB2 := Lib.hid hb2
    have HC2 := Lib.hid (HC.out w2 hb2 a2 l2 c2 (by rw [HDN.out]; exact H2.out.1.kept hb2) hl2)
    clear hb2 HI HC
    go_wp2_with fail
    refine HC2.out.mono ?_
    rintro e w3 ⟨a3, l3, c3, rfl, HD⟩
    clear HC2
    go_wp2_with fail
    refine HD.out.mono ?_
    rintro e w4 ⟨a4, l4, c4, rfl, HE⟩
    clear HD
    obtain ⟨hcl, hfr, hbl⟩ := HZ.out w2 w4 HE.out.2.2.1 HB2.out
    have hc0 : w4.cell? ⟨w.heap.size, 0, none⟩ = some (.bool false) := by simp [World.cell?, hbl]
    have hc1 : w4.cell? ⟨w.heap.size, 1, none⟩ = some (.slice none 0 0) := by simp [World.cell?, hbl]
    have hc2 : w4.cell? ⟨w.heap.size, 2, none⟩ = some (.slice none 0 0) := by simp [World.cell?, hbl]
    have hf0 := hfr 0
    have hf1 := hfr 1
    have hf2 := hfr 2
    have HBL : Hid (RatBlock w4 w.heap.size) := Lib.hid ⟨_, _, _, _, _, _, _, hbl⟩
    clear hcl hfr hbl HZ
    have HOV := Lib.hid (over_any w4 b m (rO m n d) HE.out.1)
    by_cases ho : rO m n d = true
    · rw [ho] at HOV
      have HX : Hid (GivesR b m s n d w (.returned (ratV false (.slice none 0 0) (.slice none 0 0))) (set3 w4 w.heap.size false (.slice none 0 0) (.slice none 0 0))) := Lib.hid (GivesR.none (.inl ho) (HE.out.1.set3 (Ne.symm hrb) _ _ _) (grown_set3 HE.out.2.1 (Nat.le_refl _) _ _ _))
      clear ho HE HBL
      go_wp2_with fail
      refine HOV.out.mono ?_
      rintro e w5 ⟨rfl, rfl⟩
      go_wp2_with fail
      exact bodyPost_ret (v := ratV false (.slice none 0 0) (.slice none 0 0)) (by simp [results, Tryz.results60, go_sem, ratV, hc0, hc1, hc2]) rfl HX.out
    · have ho2 : rO m n d = false := by simpa using ho
      rw [ho2] at HOV
      obtain ⟨e3, e4, n3, n4, ne⟩ := HE.out.2.2.2 ho2
      have HIZ := Lib.hid (isZero_any ne)
      by_cases h0 : n = 0
      · rw [decide_eq_true h0] at HIZ
        have HX : Hid (∀ w6, Below w4.heap.size w4 w6 → GivesR b m s n d w (.returned (ratV false (.slice none 0 0) (.slice none 0 0))) (set3 w6 w.heap.size false (.slice none 0 0) (.slice none 0 0))) := Lib.hid fun w6 h6 => GivesR.none (.inr h0) ((HE.out.1.kept h6).set3 (Ne.symm hrb) _ _ _) (grown_set3 (grownBy_trans_new HE.out.2.1 (grown_of_below h6 _)) (Nat.le_refl _) _ _ _)
        have HK : Hid (∀ w6, Below w4.heap.size w4 w6 → ∀ i, w6.cell? ⟨w.heap.size, i, none⟩ = w4.cell? ⟨w.heap.size, i, none⟩ ∧ w6.frozen? ⟨w.heap.size, i, none⟩ = w4.frozen? ⟨w.heap.size, i, none⟩) := Lib.hid fun w6 h6 i => by
          have hlt : w.heap.size < w4.heap.size := by obtain ⟨_, _, _, _, _, _, _, hh⟩ := HBL.out; exact (Array.getElem?_eq_some_iff.1 hh).1
          exact ⟨h6.cell hlt, h6.frozen (p := ⟨w.heap.size, i, none⟩) hlt⟩
        clear ho ho2 h0 e3 e4 n3 n4 ne HE HBL
        go_wp2_with fail
        refine HOV.out.mono ?_
        rintro e w5 ⟨rfl, rfl⟩
        go_wp2_with fail
        refine HIZ.out.mono ?_
        rintro e w6 ⟨rfl, hb6⟩
        have HX2 := Lib.hid (HX.out w6 hb6)
        have k0 := (HK.out w6 hb6 0).1.trans hc0
        have k1 := (HK.out w6 hb6 1).1.trans hc1
        have k2 := (HK.out w6 hb6 2).1.trans hc2
        have j0 := (HK.out w6 hb6 0).2.trans hf0
        have j1 := (HK.out w6 hb6 1).2.trans hf1
        have j2 := (HK.out w6 hb6 2).2.trans hf2
        clear hb6 HX HK HIZ hc0 hc1 hc2 hf0 hf1 hf2
        go_wp2_with fail
        exact bodyPost_ret (v := ratV false (.slice none 0 0) (.slice none 0 0)) (by simp [results, Tryz.results60, go_sem, ratV, k0, k1, k2]) rfl HX2.out
      · rw [decide_eq_false h0] at HIZ
        have HX : Hid (∀ w6, Below w4.heap.size w4 w6 → GivesR b m s n d w (.returned (ratV s (.slice a3 l3 c3) (.slice a4 l4 c4))) (set3 w6 w.heap.size s (.slice a3 l3 c3) (.slice a4 l4 c4))) := Lib.hid fun w6 h6 => by
          have hb6 : RatBlock w6 w.heap.size := by
            obtain ⟨x, x1, x2, x3, y1, y2, y3, hh⟩ := HBL.out
            exact ⟨x, x1, x2, x3, y1, y2, y3, (h6.block _ (Array.getElem?_eq_some_iff.1 hh).1).trans hh⟩
          have hbe := HE.out.1
          rw [ho2] at hbe
          rw [e3, e4]
          exact GivesR.some' ho2 h0 ((n3.kept h6).set3 hb6 _ _ _) ((n4.kept h6).set3 hb6 _ _ _) ((hbe.kept h6).set3 (Ne.symm hrb) _ _ _) (grown_set3 (grownBy_trans_new HE.out.2.1 (grown_of_below h6 _)) (Nat.le_refl _) _ _ _)
        have HK : Hid (∀ w6, Below w4.heap.size w4 w6 → ∀ i, w6.cell? ⟨w.heap.size, i, none⟩ = w4.cell? ⟨w.heap.size, i, none⟩ ∧ w6.frozen? ⟨w.heap.size, i, none⟩ = w4.frozen? ⟨w.heap.size, i, none⟩) := Lib.hid fun w6 h6 i => by
          have hlt : w.heap.size < w4.heap.size := by obtain ⟨_, _, _, _, _, _, _, hh⟩ := HBL.out; exact (Array.getElem?_eq_some_iff.1 hh).1
          exact ⟨h6.cell hlt, h6.frozen (p := ⟨w.heap.size, i, none⟩) hlt⟩
        clear ho ho2 h0 e3 e4 n3 n4 ne HE HBL
        go_wp2_with fail
        refine HOV.out.mono ?_
        rintro e w5 ⟨rfl, rfl⟩
        go_wp2_with fail
        refine HIZ.out.mono ?_
        rintro e w6 ⟨rfl, hb6⟩
        have HX2 := Lib.hid (HX.out w6 hb6)
        have k0 := (HK.out w6 hb6 0).1.trans hc0
        have k1 := (HK.out w6 hb6 1).1.trans hc1
        have k2 := (HK.out w6 hb6 2).1.trans hc2
        have j0 := (HK.out w6 hb6 0).2.trans hf0
        have j1 := (HK.out w6 hb6 1).2.trans hf1
        have j2 := (HK.out w6 hb6 2).2.trans hf2
        clear hb6 HX HK HIZ hc0 hc1 hc2 hf0 hf1 hf2
        go_wp2_with fail
        exact bodyPost_ret (v := ratV s (.slice a3 l3 c3) (.slice a4 l4 c4)) (by simp [results, Tryz.results60, go_sem, ratV, k0, k1, k2]) rfl HX2.out
end Go.Proofs.YtpjeecahaeaajaaGreatDoor

set_option linter.unusedVariables false
set_option linter.unusedSimpArgs false
namespace Go.Proofs.YtpjeecahaeaajaaGreatDoor
open Go.RowKit Rep
def Blank (W : World) (r : Nat) : Prop := W.heap[r]? = some (.cells #[.bool false, .slice none 0 0, .slice none 0 0] 27 (0, 0))
theorem Blank.kept {W W' : World} {r : Nat} (h : Blank W r) (hb : Below W.heap.size W W') : Blank W' r := (hb.block r (Array.getElem?_eq_some_iff.1 h).1).trans h
theorem Blank.grown {W W' : World} {r b : Nat} (h : Blank W r) (hg : W.grownBy W' (some b)) (hne : r ≠ b) : Blank W' r := (hg.block r (Array.getElem?_eq_some_iff.1 h).1 (by simpa using hne)).trans h
theorem Blank.rat {W : World} {r : Nat} (h : Blank W r) : RatBlock W r := ⟨_, _, _, _, _, _, _, h⟩
theorem Blank.cells {W : World} {r : Nat} (h : Blank W r) : W.cell? ⟨r, 0, none⟩ = some (.bool false) ∧ W.cell? ⟨r, 1, none⟩ = some (.slice none 0 0) ∧ W.cell? ⟨r, 2, none⟩ = some (.slice none 0 0) ∧ W.frozen? ⟨r, 0, none⟩ = false ∧ W.frozen? ⟨r, 1, none⟩ = false ∧ W.frozen? ⟨r, 2, none⟩ = false := by
  unfold Blank at h
  refine ⟨?_, ?_, ?_, ?_, ?_, ?_⟩
  · simp [World.cell?, h]
  · simp [World.cell?, h]
  · simp [World.cell?, h]
  · simp [World.frozen?, h]
  · simp [World.frozen?, h]
  · simp [World.frozen?, h]
theorem GivesR.through {b m n d r : Nat} {s : Bool} {w W W' : World} {e : Ending} (h : GivesR b m s n d W e W') (hW : w.grownBy W (some b)) (hr : w.heap.size ≤ r) (hrb : b ≠ r) (hbl : Blank W r) (hrl : r < W.heap.size) :
    ∃ (t : Bool) (x1 : Option Addr) (x2 x3 : Nat) (y1 : Option Addr) (y2 y3 : Nat), e = .returned (ratV t (.slice x1 x2 x3) (.slice y1 y2 y3)) ∧ Blank W' r ∧ GivesR b m s n d w (.returned (ratV t (.slice x1 x2 x3) (.slice y1 y2 y3))) (set3 W' r t (.slice x1 x2 x3) (.slice y1 y2 y3)) := by
  obtain ⟨a1, c1, a2, c2, rfl, h1, h2, h3, h4⟩ := h
  have hb' := hbl.grown h4 (Ne.symm hrb)
  exact ⟨_, _, _, _, _, _, _, rfl, hb', a1, c1, a2, c2, rfl, h1.set3 hb'.rat _ _ _, h2.set3 hb'.rat _ _ _, h3.set3 hrb _ _ _, grown_set3 (grownBy_trans_new hW h4) hr _ _ _⟩
end Go.Proofs.YtpjeecahaeaajaaGreatDoor
