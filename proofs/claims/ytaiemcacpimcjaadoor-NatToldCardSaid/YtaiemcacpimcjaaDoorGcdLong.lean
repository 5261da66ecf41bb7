/-
  nat.gcdLong: the greatest common divisor by halves and differences, in the numbers' own memory.
-/
import Derived.Test.YtaiemcacpimcjaaDoorRaise
import Derived.Test.YtaiemcacpimcjaaDoorDivide
import Derived.Deep.LoopGhost
set_option linter.unusedVariables false
set_option linter.unusedSimpArgs false
namespace Go.Proofs.YtaiemcacpimcjaaDoor
open Go.RowKit Rep

/-- A number that isn't 0, in a block of its own from B on. -/
structure PosAt (B : Nat) (w : World) (g c n : Nat) : Prop where
  row : Row 48 w g c ((L n).map u32v)
  ge : B ≤ g
  cap : c ≤ maxLen
  pos : 0 < n
theorem PosAt.grown {B g c n g' : Nat} {w w' : World} (h : PosAt B w g c n) (hg : w.grownBy w' (some g')) (hne : g ≠ g') : PosAt B w' g c n := ⟨h.row.grown hg (by simpa using hne), h.ge, h.cap, h.pos⟩
theorem PosAt.num {B g c n : Nat} {w : World} (h : PosAt B w g c n) : NumAt w (some ⟨g, 0, none⟩) c n := ⟨h.row.reads0, by have := h.row.le; simpa using this, h.cap⟩
theorem PosAt.len {B g c n : Nat} {w : World} (h : PosAt B w g c n) : 0 < (L n).length := Nat.pos_of_ne_zero fun e => by rw [L_len_zero] at e; have := h.pos; omega
theorem PosAt.le {B g c n : Nat} {w : World} (h : PosAt B w g c n) : (L n).length ≤ c := by have := h.row.le; simpa using this

/-- A call leaves n in block g, and all else as it was. -/
def GivesPos (B g n : Nat) (w : World) (e : Ending) (w' : World) : Prop := ∃ c', e = .returned (.slice (some ⟨g, 0, none⟩) (L n).length c') ∧ PosAt B w' g c' n ∧ w.grownBy w' (some g)
theorem GivesTake.to_pos {B g n : Nat} {w w' : World} {e : Ending} (h : GivesTake B (some ⟨g, 0, none⟩) n w e w') (hB : B ≤ g) (hn : 0 < n) : GivesPos B g n w e w' := by
  obtain ⟨c', he, hr, hc, hg⟩ := h.pos hn
  exact ⟨c', he, ⟨hr, hB, hc, hn⟩, hg⟩

theorem shr_pos {B g c k m n : Nat} {w : World} (h : PosAt B w g c n) (he : n = 2 ^ k * (2 * m + 1)) (hl : (L n).length ≤ 1000000) :
    Calls Tryd.prog 65 #[.slice (some ⟨g, 0, none⟩) (L n).length c, .int .i64 (k : Int)] w (GivesPos B g (2 * m + 1) w) := by
  have hk : 2 ^ k ≤ n := by
    have : 2 ^ k * 1 ≤ 2 ^ k * (2 * m + 1) := Nat.mul_le_mul_left _ (by omega)
    omega
  refine (shiftRight_own B g c k n w h.row h.ge h.cap hk (by omega)).mono ?_
  rintro e w' ht
  have hq : n / 2 ^ k = 2 * m + 1 := by rw [he, Nat.mul_div_cancel_left _ (Nat.pow_pos (by omega))]
  rw [hq] at ht
  exact ht.to_pos h.ge (by omega)

/-- Between two rounds. -/
structure GcdAt (B : Nat) (w wr : World) (G t k : Nat) (gx cx n gy cy m : Nat) : Prop where
  x : PosAt B wr gx cx n
  y : PosAt B wr gy cy m
  ne : gx ≠ gy
  ox : n % 2 = 1
  oy : m % 2 = 1
  gcd : Nat.gcd n m * 2 ^ t = G
  lx : (L n).length ≤ 1000000
  ly : (L m).length ≤ 1000000
  below : Below B w wr
  tab : Tab wr
  fuel : n + m ≤ k

theorem GcdAt.swap {B : Nat} {w wr : World} {G t k gx cx n gy cy m : Nat} (h : GcdAt B w wr G t k gx cx n gy cy m) : GcdAt B w wr G t k gy cy m gx cx n :=
  ⟨h.y, h.x, Ne.symm h.ne, h.oy, h.ox, by rw [Nat.gcd_comm]; exact h.gcd, h.ly, h.lx, h.below, h.tab, by have := h.fuel; omega⟩

theorem Tab.row {w w' : World} {E : TypeId} {g c : Nat} {vs : List Value} (h : Tab w) (hr : w.frozen? ⟨g, 0, none⟩ = w.frozen? ⟨g, 0, none⟩) (hg : w.grownBy w' (some g)) (hne : g ≠ 2) : Tab w' := fun j hj =>
  hg.cell (h j hj) (by simp; exact fun e => hne e.symm)

theorem odd_mod (m : Nat) : (2 * m + 1) % 2 = 1 := by omega

/-- A difference, and it without its twos: the next round. -/
theorem GcdAt.next {B : Nat} {w wr w2 w3 : World} {G t k gx cx cx2 n gy cy m kk mm : Nat} (h : GcdAt B w wr G t k gx cx n gy cy m) (hlt : m < n) (hx : PosAt B w3 gx cx2 (2 * mm + 1)) (he : n - m = 2 ^ kk * (2 * mm + 1)) (h2 : wr.grownBy w2 (some gx)) (h3 : w2.grownBy w3 (some gx))
    (hB : 2 < B) : GcdAt B w w3 G t (k - 1) gx cx2 (2 * mm + 1) gy cy m := by
  have hle : 2 * mm + 1 ≤ n - m := by
    have : 1 * (2 * mm + 1) ≤ 2 ^ kk * (2 * mm + 1) := Nat.mul_le_mul_right _ (Nat.pow_pos (by omega))
    omega
  have hg := grownBy_trans_new h2 h3
  have hm := h.y.pos
  have hgx := h.x.ge
  refine ⟨hx, h.y.grown hg (Ne.symm h.ne), h.ne, odd_mod _, h.oy, ?_, ?_, h.ly, h.below.grown hg (by have := h.x.row.lt; omega) (fun k hk => by cases hk; exact h.x.ge), fun j hj => hg.cell (h.tab j hj) (by simp; omega), by have := h.fuel; omega⟩
  · rw [gcd_step h.oy (Nat.le_of_lt hlt) he]; exact h.gcd
  · exact Nat.le_trans (rep_len_mono (by omega) (show 2 * mm + 1 ≤ n by omega)) h.lx

/-- A number, and what there was below B is as it was. -/
def GivesBelow (B G : Nat) (w : World) (e : Ending) (w' : World) : Prop := ∃ a c, e = .returned (.slice a (L G).length c) ∧ NumAt w' a c G ∧ Below B w w'

/-- The contracts of a round, n being greater. -/
theorem round_calls {B : Nat} {w wr : World} {G t k gx cx n gy cy m : Nat} (h : GcdAt B w wr G t k gx cx n gy cy m) (hlt : m < n) (hB : 2 < B) :
    Hid (Calls Tryd.prog 38 #[.slice (some ⟨gx, 0, none⟩) (L n).length cx, .slice (some ⟨gy, 0, none⟩) (L m).length cy] wr fun e w2 => ∃ c2, e = .returned (.slice (some ⟨gx, 0, none⟩) (L (n - m)).length c2) ∧
      Hid (Calls Tryd.prog 64 #[.slice (some ⟨gx, 0, none⟩) (L (n - m)).length c2] w2 fun e w2' => ∃ kk : Nat, e = .returned (.int .i64 (kk : Int)) ∧ w2 = w2' ∧
        Hid (Calls Tryd.prog 65 #[.slice (some ⟨gx, 0, none⟩) (L (n - m)).length c2, .int .i64 (kk : Int)] w2 fun e w3 => ∃ c3 n', e = .returned (.slice (some ⟨gx, 0, none⟩) (L n').length c3) ∧ Hid (GcdAt B w w3 G t (k - 1) gx c3 n' gy cy m)))) := by
  have hlm : (L m).length ≤ (L n).length := rep_len_mono (by omega) (Nat.le_of_lt hlt)
  have hln := h.lx
  refine Lib.hid ((takeOff_some B gx (L n) (L m) cx cy (some ⟨gy, 0, none⟩) wr (L_lim n) (L_lim m) h.x.ge h.x.cap h.x.row h.y.row.reads0 (.inr fun g' off e => by cases e; simp; exact Ne.symm h.ne) (by omega) hlm (by rw [V_L, V_L]; omega)).mono ?_)
  rintro e w2 ht
  rw [V_L, V_L] at ht
  obtain ⟨c2, rfl, p2, g2⟩ := ht.to_pos h.x.ge (by omega)
  have hl2 : (L (n - m)).length ≤ 1000000 := Nat.le_trans (rep_len_mono (by omega) (show n - m ≤ n by omega)) h.lx
  have hgx := h.x.ge
  have htab : Tab w2 := fun j hj => g2.cell (h.tab j hj) (by simp; omega)
  refine ⟨c2, rfl, Lib.hid ((zeros_any (some ⟨gx, 0, none⟩) (L (n - m)) c2 w2 (L_lim _) p2.row.reads0 htab (by rw [V_L]; omega) (by omega)).mono ?_)⟩
  rintro e w2' ⟨kk, mm, rfl, he, rfl⟩
  rw [V_L] at he
  refine ⟨kk, rfl, rfl, Lib.hid ((shr_pos p2 he hl2).mono ?_)⟩
  rintro e w3 ⟨c3, rfl, p3, g3⟩
  exact ⟨c3, 2 * mm + 1, rfl, Lib.hid (h.next hlt p3 he g2 g3 hB)⟩

/-- The end of the rounds: both are equal, or both are words. -/
theorem raise_end {B : Nat} {w w1 : World} {G t n : Nat} {a : Option Addr} {c : Nat} (hn : NumAt w1 a c n) (hl : (L n).length ≤ 1000000) (ht : t ≤ 100000000) (hG : n * 2 ^ t = G) (hb : Below B w w1) (hB : B ≤ w1.heap.size) :
    Calls Tryd.prog 66 #[.slice a (L n).length c, .int .i64 (t : Int)] w1 (GivesBelow B G w) := by
  refine (raise_any a c n t w1 hn (by omega) (by omega)).mono ?_
  rintro e w2 ⟨a2, c2, rfl, h2, b2⟩
  rw [hG] at h2 ⊢
  exact ⟨a2, c2, rfl, h2, hb.trans (b2.mono hB)⟩

theorem two_form : ∀ n : Nat, 0 < n → ∃ a m, n = 2 ^ a * (2 * m + 1) := by
  intro n
  induction n using Nat.strongRecOn with
  | _ n ih =>
    intro h
    rcases Nat.mod_two_eq_zero_or_one n with h0 | h0
    · obtain ⟨a, m, he⟩ := ih (n / 2) (by omega) (by omega)
      refine ⟨a + 1, m, ?_⟩
      rw [Nat.pow_succ, Nat.mul_comm (2 ^ a), Nat.mul_assoc, ← he]
      omega
    · exact ⟨0, n / 2, by omega⟩
theorem two_unique {a b m n : Nat} (h : 2 ^ a * (2 * m + 1) = 2 ^ b * (2 * n + 1)) : a = b := by
  have key : ∀ {a b m n : Nat}, a < b → 2 ^ a * (2 * m + 1) = 2 ^ b * (2 * n + 1) → False := by
    intro a b m n hlt h
    obtain ⟨d, rfl⟩ : ∃ d, b = a + 1 + d := ⟨b - a - 1, by omega⟩
    rw [Nat.pow_add, Nat.pow_succ, Nat.mul_assoc, Nat.mul_assoc] at h
    have := Nat.eq_of_mul_eq_mul_left (Nat.pow_pos (by omega)) h
    omega
  rcases Nat.lt_trichotomy a b with hl | hl | hl
  · exact (key hl h).elim
  · exact hl
  · exact (key hl h.symm).elim

theorem zeros_exact {B g c N a m : Nat} {w : World} (h : PosAt B w g c N) (hT : Tab w) (he : N = 2 ^ a * (2 * m + 1)) (hl : (L N).length ≤ 1000000) :
    Calls Tryd.prog 64 #[.slice (some ⟨g, 0, none⟩) (L N).length c] w (Gives (.int .i64 (a : Int)) w) := by
  refine (zeros_any (some ⟨g, 0, none⟩) (L N) c w (L_lim _) h.row.reads0 hT (by rw [V_L]; have := h.pos; omega) (by omega)).mono ?_
  rintro e w' ⟨k, m', rfl, he', rfl⟩
  rw [V_L, he] at he'
  have := two_unique he'
  subst this
  exact ⟨rfl, rfl⟩

theorem exp_bound {N a m : Nat} (he : N = 2 ^ a * (2 * m + 1)) (hl : (L N).length ≤ 1000000) : a ≤ 100000000 := by
  have hk : 2 ^ a ≤ N := by
    have : 2 ^ a * 1 ≤ 2 ^ a * (2 * m + 1) := Nat.mul_le_mul_left _ (by omega)
    omega
  have := len_of_pow hk
  omega

/-- What the first statements' calls give. -/
theorem start_calls {B g1 c1 N g2 c2 M a b ma mb : Nat} {w : World} (hx : PosAt B w g1 c1 N) (hy : PosAt B w g2 c2 M) (hne : g1 ≠ g2) (hB : 2 < B) (hT : Tab w) (lx : (L N).length ≤ 1000000) (ly : (L M).length ≤ 1000000) (ea : N = 2 ^ a * (2 * ma + 1)) (eb : M = 2 ^ b * (2 * mb + 1)) :
    Hid (Calls Tryd.prog 64 #[.slice (some ⟨g1, 0, none⟩) (L N).length c1] w (Gives (.int .i64 (a : Int)) w)) ∧ Hid (Calls Tryd.prog 64 #[.slice (some ⟨g2, 0, none⟩) (L M).length c2] w (Gives (.int .i64 (b : Int)) w)) ∧
      Hid (Calls Tryd.prog 65 #[.slice (some ⟨g1, 0, none⟩) (L N).length c1, .int .i64 (a : Int)] w fun e w2 => ∃ c3, e = .returned (.slice (some ⟨g1, 0, none⟩) (L (2 * ma + 1)).length c3) ∧
        Hid (Calls Tryd.prog 64 #[.slice (some ⟨g2, 0, none⟩) (L M).length c2] w2 (Gives (.int .i64 (b : Int)) w2)) ∧
        Hid (Calls Tryd.prog 65 #[.slice (some ⟨g2, 0, none⟩) (L M).length c2, .int .i64 (b : Int)] w2 fun e w3 => ∃ c4, e = .returned (.slice (some ⟨g2, 0, none⟩) (L (2 * mb + 1)).length c4) ∧ Hid (GcdAt B w w3 (Nat.gcd N M) (min a b) (N + M) g1 c3 (2 * ma + 1) g2 c4 (2 * mb + 1)))) := by
  refine ⟨Lib.hid (zeros_exact hx hT ea lx), Lib.hid (zeros_exact hy hT eb ly), Lib.hid ((shr_pos hx ea lx).mono ?_)⟩
  rintro e w2 ⟨c3, rfl, p3, g3⟩
  have hy2 : PosAt B w2 g2 c2 M := hy.grown g3 (Ne.symm hne)
  have hg1 := hx.ge
  have hg2 := hy.ge
  have hT2 : Tab w2 := fun j hj => g3.cell (hT j hj) (by simp; omega)
  refine ⟨c3, rfl, Lib.hid (zeros_exact hy2 hT2 eb ly), Lib.hid ((shr_pos hy2 eb ly).mono ?_)⟩
  rintro e w3 ⟨c4, rfl, p4, g4⟩
  have hT3 : Tab w3 := fun j hj => g4.cell (hT2 j hj) (by simp; omega)
  have l1 : 2 * ma + 1 ≤ N := by
    have : 1 * (2 * ma + 1) ≤ 2 ^ a * (2 * ma + 1) := Nat.mul_le_mul_right _ (Nat.pow_pos (by omega))
    omega
  have l2 : 2 * mb + 1 ≤ M := by
    have : 1 * (2 * mb + 1) ≤ 2 ^ b * (2 * mb + 1) := Nat.mul_le_mul_right _ (Nat.pow_pos (by omega))
    omega
  have hBw : B ≤ w.heap.size := by have := hx.row.lt; omega
  have hBw2 : B ≤ w2.heap.size := by have := p3.row.lt; omega
  refine ⟨c4, rfl, Lib.hid ⟨p3.grown g4 hne, p4, hne, odd_mod _, odd_mod _, ?_, Nat.le_trans (rep_len_mono (by omega) l1) lx, Nat.le_trans (rep_len_mono (by omega) l2) ly, ?_, hT3, by omega⟩⟩
  · rw [ea, eb, gcd_start (odd_mod _) (odd_mod _)]
  · exact ((Below.refl B w).grown g3 hBw (fun k hk => by cases hk; exact hg1)).grown g4 hBw2 (fun k hk => by cases hk; exact hg2)

theorem GcdAt.kept {B : Nat} {w wr w' : World} {G t k gx cx n gy cy m : Nat} (h : GcdAt B w wr G t k gx cx n gy cy m) (hb : Below wr.heap.size wr w') : GcdAt B w w' G t k gx cx n gy cy m :=
  ⟨⟨h.x.row.kept hb, h.x.ge, h.x.cap, h.x.pos⟩, ⟨h.y.row.kept hb, h.y.ge, h.y.cap, h.y.pos⟩, h.ne, h.ox, h.oy, h.gcd, h.lx, h.ly, h.below.trans (hb.mono (by have := h.x.row.lt; have := h.x.ge; omega)), h.tab.kept hb, h.fuel⟩
theorem GcdAt.size {B : Nat} {w wr : World} {G t k gx cx n gy cy m : Nat} (h : GcdAt B w wr G t k gx cx n gy cy m) : B ≤ wr.heap.size := by have := h.x.row.lt; have := h.x.ge; omega
theorem word_lt {n : Nat} (h : ¬ 2 < (L n).length) : n < 18446744073709551616 := by
  have := (L_len n 2).1 (by omega)
  omega

/-- The calls of the last statement. -/
theorem last_calls {B : Nat} {w wr : World} {G t k gx cx n gy cy m : Nat} (h : GcdAt B w wr G t k gx cx n gy cy m) (h1 : ¬ 2 < (L n).length) (h2 : ¬ 2 < (L m).length) (ht : t ≤ 100000000) :
    Hid (Calls Tryd.prog 52 #[.slice (some ⟨gx, 0, none⟩) (L n).length cx] wr (Gives (.int .u64 (n : Int)) wr)) ∧ Hid (Calls Tryd.prog 52 #[.slice (some ⟨gy, 0, none⟩) (L m).length cy] wr (Gives (.int .u64 (m : Int)) wr)) ∧
      Hid (Calls Tryd.prog 51 #[.int .u64 (n : Int), .int .u64 (m : Int)] wr fun e w2 => ∃ d : Nat, e = .returned (.int .u64 (d : Int)) ∧
        Hid (Calls Tryd.prog 33 #[.int .u64 (d : Int)] w2 fun e w3 => ∃ a c, e = .returned (.slice a (L d).length c) ∧ Hid (Calls Tryd.prog 66 #[.slice a (L d).length c, .int .i64 (t : Int)] w3 (GivesBelow B G w)))) := by
  have hn := word_lt h1
  have hm := word_lt h2
  refine ⟨Lib.hid ?_, Lib.hid ?_, Lib.hid ?_⟩
  · have := word_any (some ⟨gx, 0, none⟩) (L n) cx wr (L_lim n) h.x.row.reads0 (by omega)
    rwa [V_L] at this
  · have := word_any (some ⟨gy, 0, none⟩) (L m) cy wr (L_lim m) h.y.row.reads0 (by omega)
    rwa [V_L] at this
  · refine (gcdWord_any n m wr hn hm).mono ?_
    rintro e w2 ⟨rfl, nd, rfl⟩
    have hd : Nat.gcd n m < 18446744073709551616 := Nat.lt_of_le_of_lt (Nat.le_of_dvd h.x.pos (Nat.gcd_dvd_left n m)) hn
    have hb2 : Below B w (wr.drewN nd) := ⟨h.below.os, h.below.tape, h.below.output, h.below.size, h.below.block⟩
    have hs2 : B ≤ (wr.drewN nd).heap.size := h.size
    refine ⟨Nat.gcd n m, rfl, Lib.hid ?_⟩
    refine (of_any _ hd (wr.drewN nd)).mono ?_
    rintro e w3 ⟨a, c, rfl, hat, hb⟩
    have hl : (L (Nat.gcd n m)).length ≤ 2 := (L_len _ _).2 (by omega)
    exact ⟨a, c, rfl, Lib.hid (raise_end hat (by omega) ht h.gcd (hb2.trans (hb.mono hs2)) (Nat.le_trans hs2 hb.size))⟩

set_option maxRecDepth 100000 in
set_option maxHeartbeats 4000000 in
theorem gcdLong_any (B g1 c1 N g2 c2 M : Nat) (w : World) (hx : PosAt B w g1 c1 N) (hy : PosAt B w g2 c2 M) (hne : g1 ≠ g2) (hB : 2 < B) (hT : Tab w) (lx : (L N).length ≤ 1000000) (ly : (L M).length ≤ 1000000) :
    Calls Tryd.prog 53 #[.slice (some ⟨g1, 0, none⟩) (L N).length c1, .slice (some ⟨g2, 0, none⟩) (L M).length c2] w (GivesBelow B (Nat.gcd N M) w) := by
  obtain ⟨a, ma, ea⟩ := two_form N hx.pos
  obtain ⟨b, mb, eb⟩ := two_form M hy.pos
  obtain ⟨HZ1, HZ2, HS1⟩ := start_calls hx hy hne hB hT lx ly ea eb
  have hab : a ≤ 100000000 := exp_bound ea lx
  have hbb : b ≤ 100000000 := exp_bound eb ly
  clear hx hy hne hT ea eb
  go_enter Tryd.func53, Tryd.ntmps53
  go_wp2_with fail
  refine HZ1.out.mono ?_
  rintro e w' ⟨rfl, rfl⟩
  go_wp2_with fail
  refine HZ2.out.mono ?_
  rintro e w' ⟨rfl, rfl⟩
  go_wp2_with fail
  refine HZ1.out.mono ?_
  rintro e w' ⟨rfl, rfl⟩
  go_wp2_with fail
  refine HS1.out.mono ?_
  rintro e w2 ⟨c3, rfl, HZ3, HS2⟩
  go_wp2_with fail
  refine HZ3.out.mono ?_
  rintro e w' ⟨rfl, rfl⟩
  go_wp2_with fail
  refine HS2.out.mono ?_
  rintro e w3 ⟨c4, rfl, HG⟩
  rw [min_nat]
  have ht : min a b ≤ 100000000 := by omega
  clear HZ1 HZ2 HZ3 HS1 HS2 hab hbb lx ly
  generalize min a b = t at *
  generalize hGe : Nat.gcd N M = G at *
  clear hGe
  go_wp2_with fail
  go_loopg [0, 1] (N + M) (fun k xv yv wr => ∃ gx cx n gy cy m, xv = .slice (some ⟨gx, 0, none⟩) (L n).length cx ∧ yv = .slice (some ⟨gy, 0, none⟩) (L m).length cy ∧ GcdAt B w wr G t k gx cx n gy cy m)
  case atStart => exact ⟨_, _, _, _, _, _, rfl, rfl, HG.out⟩
  case round =>
    obtain ⟨gx, cx, n, gy, cy, m, rfl, rfl, hg⟩ := hrel
    have HR := Lib.hid hg
    have hnl := hg.lx
    have hml := hg.ly
    have hfu : 0 < gk := by have := hg.fuel; have := hg.x.pos; omega
    clear hg HG
    by_cases hex : ¬ 2 < (L n).length ∧ ¬ 2 < (L m).length
    · obtain ⟨e1, e2⟩ := hex
      obtain ⟨HA, HBw, HC⟩ := last_calls HR.out e1 e2 ht
      have d1 : decide ((2 : Int) < ((L n).length : Int)) = false := decide_eq_false (by omega)
      have d2 : decide ((2 : Int) < ((L m).length : Int)) = false := decide_eq_false (by omega)
      clear HR
      go_wp2_with fail
      refine HA.out.mono ?_
      rintro e w' ⟨rfl, rfl⟩
      go_wp2_with fail
      refine HBw.out.mono ?_
      rintro e w' ⟨rfl, rfl⟩
      go_wp2_with fail
      refine HC.out.mono ?_
      rintro e w4 ⟨d, rfl, HO⟩
      clear HA HBw HC d1 d2 e1 e2
      go_wp2_with fail
      refine HO.out.mono ?_
      rintro e w5 ⟨a5, c5, rfl, HRs⟩
      clear HO
      go_wp2_with fail
      refine HRs.out.mono ?_
      rintro e w6 ⟨a6, c6, rfl, hn6, hb6⟩
      have HE := Lib.hid (And.intro hn6 hb6)
      clear hn6 hb6 HRs
      go_wp2_with fail
      go_ret
      exact ⟨a6, c6, rfl, HE.out.1, HE.out.2⟩
    · have hgo : ((decide ((2 : Int) < ((L n).length : Int)) = true) ∧ (2 : Int) < ((L n).length : Int)) ∨ (decide ((2 : Int) < ((L n).length : Int)) = false ∧ decide ((2 : Int) < ((L m).length : Int)) = true ∧ (2 : Int) < ((L m).length : Int)) := by
        by_cases e1 : 2 < (L n).length
        · exact .inl ⟨decide_eq_true (by omega), by omega⟩
        · exact .inr ⟨decide_eq_false (by omega), decide_eq_true (by omega), by omega⟩
      have HCM := Lib.hid (compare_num (some ⟨gx, 0, none⟩) (some ⟨gy, 0, none⟩) cx cy n m wr HR.out.x.num HR.out.y.num (by omega))
      clear hex
      have hcs : (cmpI (n : Int) (m : Int) = 0 ∧ n = m) ∨ (cmpI (n : Int) (m : Int) = 1 ∧ m < n) ∨ (cmpI (n : Int) (m : Int) = -1 ∧ n < m) := by
        unfold cmpI
        rcases Nat.lt_trichotomy n m with h | h | h
        · rw [if_pos (by omega)]; exact .inr (.inr ⟨rfl, h⟩)
        · rw [if_neg (by omega), if_pos (by omega)]; exact .inl ⟨rfl, h⟩
        · rw [if_neg (by omega), if_neg (by omega)]; exact .inr (.inl ⟨rfl, h⟩)
      generalize cmpI (n : Int) (m : Int) = cm at *
      rcases hgo with ⟨d1, d2⟩ | ⟨d1, d2, d3⟩
      all_goals
        rcases hcs with ⟨rfl, he⟩ | ⟨rfl, he⟩ | ⟨rfl, he⟩
        · have hd : n * 2 ^ t = G := by have := HR.out.gcd; rw [← he, Nat.gcd_self] at this; exact this
          have HRA := Lib.hid (fun (w4 : World) (hb : Below wr.heap.size wr w4) => raise_end (HR.out.kept hb).x.num HR.out.lx ht hd (HR.out.kept hb).below (HR.out.kept hb).size)
          clear he hd HR
          go_wp2_with fail
          refine HCM.out.mono ?_
          rintro e w4 ⟨rfl, hb4⟩
          have HRB := Lib.hid (HRA.out w4 hb4)
          clear HRA hb4 HCM
          go_wp2_with fail
          refine HRB.out.mono ?_
          rintro e w6 ⟨a6, c6, rfl, hn6, hb6⟩
          have HE := Lib.hid (And.intro hn6 hb6)
          clear hn6 hb6 HRB
          go_wp2_with fail
          go_ret
          exact ⟨a6, c6, rfl, HE.out.1, HE.out.2⟩
        · have HRC := Lib.hid (fun (w4 : World) (hb : Below wr.heap.size wr w4) => round_calls (HR.out.kept hb) he hB)
          clear he HR
          go_wp2_with fail
          refine HCM.out.mono ?_
          rintro e w4 ⟨rfl, hb4⟩
          have HT := Lib.hid (HRC.out w4 hb4).out
          clear HRC hb4 HCM
          go_wp2_with fail
          refine HT.out.mono ?_
          rintro e w5 ⟨c5, rfl, HZ⟩
          clear HT
          go_wp2_with fail
          refine HZ.out.mono ?_
          rintro e w6 ⟨kk, rfl, rfl, HS⟩
          clear HZ
          go_wp2_with fail
          refine HS.out.mono ?_
          rintro e w7 ⟨c7, n7, rfl, HN⟩
          clear HS
          go_wp2_with fail
          go_roundg (gk - 1)
          case rel => exact ⟨_, _, _, _, _, _, rfl, rfl, HN.out⟩
          case measure => omega
        · have HRC := Lib.hid (fun (w4 : World) (hb : Below wr.heap.size wr w4) => round_calls (HR.out.kept hb).swap he hB)
          clear he HR
          go_wp2_with fail
          refine HCM.out.mono ?_
          rintro e w4 ⟨rfl, hb4⟩
          have HT := Lib.hid (HRC.out w4 hb4).out
          clear HRC hb4 HCM
          go_wp2_with fail
          refine HT.out.mono ?_
          rintro e w5 ⟨c5, rfl, HZ⟩
          clear HT
          go_wp2_with fail
          refine HZ.out.mono ?_
          rintro e w6 ⟨kk, rfl, rfl, HS⟩
          clear HZ
          go_wp2_with fail
          refine HS.out.mono ?_
          rintro e w7 ⟨c7, n7, rfl, HN⟩
          clear HS
          go_wp2_with fail
          go_roundg (gk - 1)
          case rel => exact ⟨_, _, _, _, _, _, rfl, rfl, HN.out⟩
          case measure => omega
end Go.Proofs.YtaiemcacpimcjaaDoor
