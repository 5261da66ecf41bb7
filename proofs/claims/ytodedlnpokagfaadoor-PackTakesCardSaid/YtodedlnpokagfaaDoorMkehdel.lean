/- By program out of: GcdLong, Gcd, St, RatNum, RatFit, RatMake, RefR, RefForm, RefOf. -/
import Derived.Test.YtodedlnpokagfaaDoorMihmiff
import Derived.Test.YtodedlnpokagfaaDoorMbbaeag
import Derived.Deep.LoopGhost
import Derived.Test.YtodedlnpokagfaaDoorMhadfpk
import Derived.Test.YtodedlnpokagfaaDoorMcdobkk
import Derived.Deep.RegionHeld3
/-
  nat.gcdLong: the greatest common divisor by halves and differences, in the numbers' own memory.
-/
set_option linter.unusedVariables false
set_option linter.unusedSimpArgs false
namespace Go.Proofs.YtodedlnpokagfaaDoor
open Go.RowKit Rep

/-- A number that isn't 0, in a block of its own from B on. -/
structure PosAt (B : Nat) (w : World) (g c n : Nat) : Prop where
  row : Row 71 w g c ((L n).map u32v)
  ge : B ≤ g
  cap : c ≤ maxLen
  pos : 0 < n
theorem PosAt.grown {B g c n g' : Nat} {w w' : World} (h : PosAt B w g c n) (hg : w.grownBy w' (some g')) (hne : g ≠ g') : PosAt B w' g c n := ⟨h.row.grown hg (by simpa using hne), h.ge, h.cap, h.pos⟩
theorem PosAt.num {B g c n : Nat} {w : World} (h : PosAt B w g c n) : NumAt w (some ⟨g, 0, none⟩) c n := ⟨h.row.reads0, by have := h.row.le; simpa using this, h.cap⟩
theorem PosAt.len {B g c n : Nat} {w : World} (h : PosAt B w g c n) : 0 < (L n).length := Nat.pos_of_ne_zero fun e => by rw [L_len_zero] at e; have := h.pos; omega
theorem PosAt.le {B g c n : Nat} {w : World} (h : PosAt B w g c n) : (L n).length ≤ c := by have := h.row.le; simpa using this

/-- A call leaves n in block g, and all else as it was. -/
def GivesPos (B g n : Nat) (w : World) (e : Ending) (w' : World) : Prop := ∃ c', e = .returned (.slice (some ⟨g, 0, none⟩) (L n).length c') ∧ PosAt B w' g c' n ∧ w.grownBy w' (some g)
theorem GivesTake.to_pos {B g n : Nat} {w w' : World} {e : Ending} (h : GivesTake B (some ⟨g, 0, none⟩) n w e w') (hB : B ≤ g) (hn : 0 < n) : GivesPos B g n w e w' := by
  obtain ⟨c', he, hr, hc, hg⟩ := h.pos hn
  exact ⟨c', he, ⟨hr, hB, hc, hn⟩, hg⟩

theorem shr_pos {B g c k m n : Nat} {w : World} (h : PosAt B w g c n) (he : n = 2 ^ k * (2 * m + 1)) (hl : (L n).length ≤ 1000000) :
    Calls Tryd.prog 83 #[.slice (some ⟨g, 0, none⟩) (L n).length c, .int .i64 (k : Int)] w (GivesPos B g (2 * m + 1) w) := by
  have hk : 2 ^ k ≤ n := by
    have : 2 ^ k * 1 ≤ 2 ^ k * (2 * m + 1) := Nat.mul_le_mul_left _ (by omega)
    omega
  refine (shiftRight_own B g c k n w h.row h.ge h.cap hk (by omega)).mono ?_
  rintro e w' ht
  have hq : n / 2 ^ k = 2 * m + 1 := by rw [he, Nat.mul_div_cancel_left _ (Nat.pow_pos (by omega))]
  rw [hq] at ht
  exact ht.to_pos h.ge (by omega)

/-- Between two rounds. -/
structure GcdAt (B : Nat) (w wr : World) (G t k : Nat) (gx cx n gy cy m : Nat) : Prop where
  x : PosAt B wr gx cx n
  y : PosAt B wr gy cy m
  ne : gx ≠ gy
  ox : n % 2 = 1
  oy : m % 2 = 1
  gcd : Nat.gcd n m * 2 ^ t = G
  lx : (L n).length ≤ 1000000
  ly : (L m).length ≤ 1000000
  below : Below B w wr
  tab : Tab wr
  fuel : n + m ≤ k

theorem GcdAt.swap {B : Nat} {w wr : World} {G t k gx cx n gy cy m : Nat} (h : GcdAt B w wr G t k gx cx n gy cy m) : GcdAt B w wr G t k gy cy m gx cx n :=
  ⟨h.y, h.x, Ne.symm h.ne, h.oy, h.ox, by rw [Nat.gcd_comm]; exact h.gcd, h.ly, h.lx, h.below, h.tab, by have := h.fuel; omega⟩

theorem Tab.row {w w' : World} {E : TypeId} {g c : Nat} {vs : List Value} (h : Tab w) (hr : w.frozen? ⟨g, 0, none⟩ = w.frozen? ⟨g, 0, none⟩) (hg : w.grownBy w' (some g)) (hne : g ≠ 0) : Tab w' := fun j hj =>
  hg.cell (h j hj) (by simp; exact fun e => hne e.symm)

theorem odd_mod (m : Nat) : (2 * m + 1) % 2 = 1 := by omega

/-- A difference, and it without its twos: the next round. -/
theorem GcdAt.next {B : Nat} {w wr w2 w3 : World} {G t k gx cx cx2 n gy cy m kk mm : Nat} (h : GcdAt B w wr G t k gx cx n gy cy m) (hlt : m < n) (hx : PosAt B w3 gx cx2 (2 * mm + 1)) (he : n - m = 2 ^ kk * (2 * mm + 1)) (h2 : wr.grownBy w2 (some gx)) (h3 : w2.grownBy w3 (some gx))
    (hB : 0 < B) : GcdAt B w w3 G t (k - 1) gx cx2 (2 * mm + 1) gy cy m := by
  have hle : 2 * mm + 1 ≤ n - m := by
    have : 1 * (2 * mm + 1) ≤ 2 ^ kk * (2 * mm + 1) := Nat.mul_le_mul_right _ (Nat.pow_pos (by omega))
    omega
  have hg := grownBy_trans_new h2 h3
  have hm := h.y.pos
  have hgx := h.x.ge
  refine ⟨hx, h.y.grown hg (Ne.symm h.ne), h.ne, odd_mod _, h.oy, ?_, ?_, h.ly, h.below.grown hg (by have := h.x.row.lt; omega) (fun k hk => by cases hk; exact h.x.ge), fun j hj => hg.cell (h.tab j hj) (by simp; omega), by have := h.fuel; omega⟩
  · rw [gcd_step h.oy (Nat.le_of_lt hlt) he]; exact h.gcd
  · exact Nat.le_trans (rep_len_mono (by omega) (show 2 * mm + 1 ≤ n by omega)) h.lx

/-- A number, and what there was below B is as it was. -/
def GivesBelow (B G : Nat) (w : World) (e : Ending) (w' : World) : Prop := ∃ a c, e = .returned (.slice a (L G).length c) ∧ NumAt w' a c G ∧ Below B w w'

/-- The contracts of a round, n being greater. -/
theorem round_calls {B : Nat} {w wr : World} {G t k gx cx n gy cy m : Nat} (h : GcdAt B w wr G t k gx cx n gy cy m) (hlt : m < n) (hB : 0 < B) :
    Hid (Calls Tryd.prog 85 #[.slice (some ⟨gx, 0, none⟩) (L n).length cx, .slice (some ⟨gy, 0, none⟩) (L m).length cy] wr fun e w2 => ∃ c2, e = .returned (.slice (some ⟨gx, 0, none⟩) (L (n - m)).length c2) ∧
      Hid (Calls Tryd.prog 82 #[.slice (some ⟨gx, 0, none⟩) (L (n - m)).length c2] w2 fun e w2' => ∃ kk : Nat, e = .returned (.int .i64 (kk : Int)) ∧ w2 = w2' ∧
        Hid (Calls Tryd.prog 83 #[.slice (some ⟨gx, 0, none⟩) (L (n - m)).length c2, .int .i64 (kk : Int)] w2 fun e w3 => ∃ c3 n', e = .returned (.slice (some ⟨gx, 0, none⟩) (L n').length c3) ∧ Hid (GcdAt B w w3 G t (k - 1) gx c3 n' gy cy m)))) := by
  have hlm : (L m).length ≤ (L n).length := rep_len_mono (by omega) (Nat.le_of_lt hlt)
  have hln := h.lx
  refine Lib.hid ((takeOff_some B gx (L n) (L m) cx cy (some ⟨gy, 0, none⟩) wr (L_lim n) (L_lim m) h.x.ge h.x.cap h.x.row h.y.row.reads0 (.inr fun g' off e => by cases e; simp; exact Ne.symm h.ne) (by omega) hlm (by rw [V_L, V_L]; omega)).mono ?_)
  rintro e w2 ht
  rw [V_L, V_L] at ht
  obtain ⟨c2, rfl, p2, g2⟩ := ht.to_pos h.x.ge (by omega)
  have hl2 : (L (n - m)).length ≤ 1000000 := Nat.le_trans (rep_len_mono (by omega) (show n - m ≤ n by omega)) h.lx
  have hgx := h.x.ge
  have htab : Tab w2 := fun j hj => g2.cell (h.tab j hj) (by simp; omega)
  refine ⟨c2, rfl, Lib.hid ((zeros_any (some ⟨gx, 0, none⟩) (L (n - m)) c2 w2 (L_lim _) p2.row.reads0 htab (by rw [V_L]; omega) (by omega)).mono ?_)⟩
  rintro e w2' ⟨kk, mm, rfl, he, rfl⟩
  rw [V_L] at he
  refine ⟨kk, rfl, rfl, Lib.hid ((shr_pos p2 he hl2).mono ?_)⟩
  rintro e w3 ⟨c3, rfl, p3, g3⟩
  exact ⟨c3, 2 * mm + 1, rfl, Lib.hid (h.next hlt p3 he g2 g3 hB)⟩

/-- The end of the rounds: both are equal, or both are words. -/
theorem raise_end {B : Nat} {w w1 : World} {G t n : Nat} {a : Option Addr} {c : Nat} (hn : NumAt w1 a c n) (hl : (L n).length ≤ 1000000) (ht : t ≤ 100000000) (hG : n * 2 ^ t = G) (hb : Below B w w1) (hB : B ≤ w1.heap.size) :
    Calls Tryd.prog 84 #[.slice a (L n).length c, .int .i64 (t : Int)] w1 (GivesBelow B G w) := by
  refine (raise_any a c n t w1 hn (by omega) (by omega)).mono ?_
  rintro e w2 ⟨a2, c2, rfl, h2, b2⟩
  rw [hG] at h2 ⊢
  exact ⟨a2, c2, rfl, h2, hb.trans (b2.mono hB)⟩

theorem two_form : ∀ n : Nat, 0 < n → ∃ a m, n = 2 ^ a * (2 * m + 1) := by
  intro n
  induction n using Nat.strongRecOn with
  | _ n ih =>
    intro h
    rcases Nat.mod_two_eq_zero_or_one n with h0 | h0
    · obtain ⟨a, m, he⟩ := ih (n / 2) (by omega) (by omega)
      refine ⟨a + 1, m, ?_⟩
      rw [Nat.pow_succ, Nat.mul_comm (2 ^ a), Nat.mul_assoc, ← he]
      omega
    · exact ⟨0, n / 2, by omega⟩
theorem two_unique {a b m n : Nat} (h : 2 ^ a * (2 * m + 1) = 2 ^ b * (2 * n + 1)) : a = b := by
  have key : ∀ {a b m n : Nat}, a < b → 2 ^ a * (2 * m + 1) = 2 ^ b * (2 * n + 1) → False := by
    intro a b m n hlt h
    obtain ⟨d, rfl⟩ : ∃ d, b = a + 1 + d := ⟨b - a - 1, by omega⟩
    rw [Nat.pow_add, Nat.pow_succ, Nat.mul_assoc, Nat.mul_assoc] at h
    have := Nat.eq_of_mul_eq_mul_left (Nat.pow_pos (by omega)) h
    omega
  rcases Nat.lt_trichotomy a b with hl | hl | hl
  · exact (key hl h).elim
  · exact hl
  · exact (key hl h.symm).elim

theorem zeros_exact {B g c N a m : Nat} {w : World} (h : PosAt B w g c N) (hT : Tab w) (he : N = 2 ^ a * (2 * m + 1)) (hl : (L N).length ≤ 1000000) :
    Calls Tryd.prog 82 #[.slice (some ⟨g, 0, none⟩) (L N).length c] w (Gives (.int .i64 (a : Int)) w) := by
  refine (zeros_any (some ⟨g, 0, none⟩) (L N) c w (L_lim _) h.row.reads0 hT (by rw [V_L]; have := h.pos; omega) (by omega)).mono ?_
  rintro e w' ⟨k, m', rfl, he', rfl⟩
  rw [V_L, he] at he'
  have := two_unique he'
  subst this
  exact ⟨rfl, rfl⟩

theorem exp_bound {N a m : Nat} (he : N = 2 ^ a * (2 * m + 1)) (hl : (L N).length ≤ 1000000) : a ≤ 100000000 := by
  have hk : 2 ^ a ≤ N := by
    have : 2 ^ a * 1 ≤ 2 ^ a * (2 * m + 1) := Nat.mul_le_mul_left _ (by omega)
    omega
  have := len_of_pow hk
  omega

/-- What the first statements' calls give. -/
theorem start_calls {B g1 c1 N g2 c2 M a b ma mb : Nat} {w : World} (hx : PosAt B w g1 c1 N) (hy : PosAt B w g2 c2 M) (hne : g1 ≠ g2) (hB : 0 < B) (hT : Tab w) (lx : (L N).length ≤ 1000000) (ly : (L M).length ≤ 1000000) (ea : N = 2 ^ a * (2 * ma + 1)) (eb : M = 2 ^ b * (2 * mb + 1)) :
    Hid (Calls Tryd.prog 82 #[.slice (some ⟨g1, 0, none⟩) (L N).length c1] w (Gives (.int .i64 (a : Int)) w)) ∧ Hid (Calls Tryd.prog 82 #[.slice (some ⟨g2, 0, none⟩) (L M).length c2] w (Gives (.int .i64 (b : Int)) w)) ∧
      Hid (Calls Tryd.prog 83 #[.slice (some ⟨g1, 0, none⟩) (L N).length c1, .int .i64 (a : Int)] w fun e w2 => ∃ c3, e = .returned (.slice (some ⟨g1, 0, none⟩) (L (2 * ma + 1)).length c3) ∧
        Hid (Calls Tryd.prog 82 #[.slice (some ⟨g2, 0, none⟩) (L M).length c2] w2 (Gives (.int .i64 (b : Int)) w2)) ∧
        Hid (Calls Tryd.prog 83 #[.slice (some ⟨g2, 0, none⟩) (L M).length c2, .int .i64 (b : Int)] w2 fun e w3 => ∃ c4, e = .returned (.slice (some ⟨g2, 0, none⟩) (L (2 * mb + 1)).length c4) ∧ Hid (GcdAt B w w3 (Nat.gcd N M) (min a b) (N + M) g1 c3 (2 * ma + 1) g2 c4 (2 * mb + 1)))) := by
  refine ⟨Lib.hid (zeros_exact hx hT ea lx), Lib.hid (zeros_exact hy hT eb ly), Lib.hid ((shr_pos hx ea lx).mono ?_)⟩
  rintro e w2 ⟨c3, rfl, p3, g3⟩
  have hy2 : PosAt B w2 g2 c2 M := hy.grown g3 (Ne.symm hne)
  have hg1 := hx.ge
  have hg2 := hy.ge
  have hT2 : Tab w2 := fun j hj => g3.cell (hT j hj) (by simp; omega)
  refine ⟨c3, rfl, Lib.hid (zeros_exact hy2 hT2 eb ly), Lib.hid ((shr_pos hy2 eb ly).mono ?_)⟩
  rintro e w3 ⟨c4, rfl, p4, g4⟩
  have hT3 : Tab w3 := fun j hj => g4.cell (hT2 j hj) (by simp; omega)
  have l1 : 2 * ma + 1 ≤ N := by
    have : 1 * (2 * ma + 1) ≤ 2 ^ a * (2 * ma + 1) := Nat.mul_le_mul_right _ (Nat.pow_pos (by omega))
    omega
  have l2 : 2 * mb + 1 ≤ M := by
    have : 1 * (2 * mb + 1) ≤ 2 ^ b * (2 * mb + 1) := Nat.mul_le_mul_right _ (Nat.pow_pos (by omega))
    omega
  have hBw : B ≤ w.heap.size := by have := hx.row.lt; omega
  have hBw2 : B ≤ w2.heap.size := by have := p3.row.lt; omega
  refine ⟨c4, rfl, Lib.hid ⟨p3.grown g4 hne, p4, hne, odd_mod _, odd_mod _, ?_, Nat.le_trans (rep_len_mono (by omega) l1) lx, Nat.le_trans (rep_len_mono (by omega) l2) ly, ?_, hT3, by omega⟩⟩
  · rw [ea, eb, gcd_start (odd_mod _) (odd_mod _)]
  · exact ((Below.refl B w).grown g3 hBw (fun k hk => by cases hk; exact hg1)).grown g4 hBw2 (fun k hk => by cases hk; exact hg2)

theorem GcdAt.kept {B : Nat} {w wr w' : World} {G t k gx cx n gy cy m : Nat} (h : GcdAt B w wr G t k gx cx n gy cy m) (hb : Below wr.heap.size wr w') : GcdAt B w w' G t k gx cx n gy cy m :=
  ⟨⟨h.x.row.kept hb, h.x.ge, h.x.cap, h.x.pos⟩, ⟨h.y.row.kept hb, h.y.ge, h.y.cap, h.y.pos⟩, h.ne, h.ox, h.oy, h.gcd, h.lx, h.ly, h.below.trans (hb.mono (by have := h.x.row.lt; have := h.x.ge; omega)), h.tab.kept hb, h.fuel⟩
theorem GcdAt.size {B : Nat} {w wr : World} {G t k gx cx n gy cy m : Nat} (h : GcdAt B w wr G t k gx cx n gy cy m) : B ≤ wr.heap.size := by have := h.x.row.lt; have := h.x.ge; omega
theorem word_lt {n : Nat} (h : ¬ 2 < (L n).length) : n < 18446744073709551616 := by
  have := (L_len n 2).1 (by omega)
  omega

/-- The calls of the last statement. -/
theorem last_calls {B : Nat} {w wr : World} {G t k gx cx n gy cy m : Nat} (h : GcdAt B w wr G t k gx cx n gy cy m) (h1 : ¬ 2 < (L n).length) (h2 : ¬ 2 < (L m).length) (ht : t ≤ 100000000) :
    Hid (Calls Tryd.prog 73 #[.slice (some ⟨gx, 0, none⟩) (L n).length cx] wr (Gives (.int .u64 (n : Int)) wr)) ∧ Hid (Calls Tryd.prog 73 #[.slice (some ⟨gy, 0, none⟩) (L m).length cy] wr (Gives (.int .u64 (m : Int)) wr)) ∧
      Hid (Calls Tryd.prog 72 #[.int .u64 (n : Int), .int .u64 (m : Int)] wr fun e w2 => ∃ d : Nat, e = .returned (.int .u64 (d : Int)) ∧
        Hid (Calls Tryd.prog 71 #[.int .u64 (d : Int)] w2 fun e w3 => ∃ a c, e = .returned (.slice a (L d).length c) ∧ Hid (Calls Tryd.prog 84 #[.slice a (L d).length c, .int .i64 (t : Int)] w3 (GivesBelow B G w)))) := by
  have hn := word_lt h1
  have hm := word_lt h2
  refine ⟨Lib.hid ?_, Lib.hid ?_, Lib.hid ?_⟩
  · have := word_any (some ⟨gx, 0, none⟩) (L n) cx wr (L_lim n) h.x.row.reads0 (by omega)
    rwa [V_L] at this
  · have := word_any (some ⟨gy, 0, none⟩) (L m) cy wr (L_lim m) h.y.row.reads0 (by omega)
    rwa [V_L] at this
  · refine (gcdWord_any n m wr hn hm).mono ?_
    rintro e w2 ⟨rfl, nd, rfl⟩
    have hd : Nat.gcd n m < 18446744073709551616 := Nat.lt_of_le_of_lt (Nat.le_of_dvd h.x.pos (Nat.gcd_dvd_left n m)) hn
    have hb2 : Below B w (wr.drewN nd) := ⟨h.below.os, h.below.tape, h.below.output, h.below.size, h.below.block⟩
    have hs2 : B ≤ (wr.drewN nd).heap.size := h.size
    refine ⟨Nat.gcd n m, rfl, Lib.hid ?_⟩
    refine (of_any _ hd (wr.drewN nd)).mono ?_
    rintro e w3 ⟨a, c, rfl, hat, hb⟩
    have hl : (L (Nat.gcd n m)).length ≤ 2 := (L_len _ _).2 (by omega)
    exact ⟨a, c, rfl, Lib.hid (raise_end hat (by omega) ht h.gcd (hb2.trans (hb.mono hs2)) (Nat.le_trans hs2 hb.size))⟩

set_option maxRecDepth 100000 in
set_option maxHeartbeats 4000000 in
theorem gcdLong_any (B g1 c1 N g2 c2 M : Nat) (w : World) (hx : PosAt B w g1 c1 N) (hy : PosAt B w g2 c2 M) (hne : g1 ≠ g2) (hB : 0 < B) (hT : Tab w) (lx : (L N).length ≤ 1000000) (ly : (L M).length ≤ 1000000) :
    Calls Tryd.prog 74 #[.slice (some ⟨g1, 0, none⟩) (L N).length c1, .slice (some ⟨g2, 0, none⟩) (L M).length c2] w (GivesBelow B (Nat.gcd N M) w) := by
  obtain ⟨a, ma, ea⟩ := two_form N hx.pos
  obtain ⟨b, mb, eb⟩ := two_form M hy.pos
  obtain ⟨HZ1, HZ2, HS1⟩ := start_calls hx hy hne hB hT lx ly ea eb
  have hab : a ≤ 100000000 := exp_bound ea lx
  have hbb : b ≤ 100000000 := exp_bound eb ly
  clear hx hy hne hT ea eb
  go_enter Tryd.func74, Tryd.ntmps74
  go_wp2_with fail
  refine HZ1.out.mono ?_
  rintro e w' ⟨rfl, rfl⟩
  go_wp2_with fail
  refine HZ2.out.mono ?_
  rintro e w' ⟨rfl, rfl⟩
  go_wp2_with fail
  refine HZ1.out.mono ?_
  rintro e w' ⟨rfl, rfl⟩
  go_wp2_with fail
  refine HS1.out.mono ?_
  rintro e w2 ⟨c3, rfl, HZ3, HS2⟩
  go_wp2_with fail
  refine HZ3.out.mono ?_
  rintro e w' ⟨rfl, rfl⟩
  go_wp2_with fail
  refine HS2.out.mono ?_
  rintro e w3 ⟨c4, rfl, HG⟩
  rw [min_nat]
  have ht : min a b ≤ 100000000 := by omega
  clear HZ1 HZ2 HZ3 HS1 HS2 hab hbb lx ly
  generalize min a b = t at *
  generalize hGe : Nat.gcd N M = G at *
  clear hGe
  go_wp2_with fail
  go_loopg [0, 1] (N + M) (fun k xv yv wr => ∃ gx cx n gy cy m, xv = .slice (some ⟨gx, 0, none⟩) (L n).length cx ∧ yv = .slice (some ⟨gy, 0, none⟩) (L m).length cy ∧ GcdAt B w wr G t k gx cx n gy cy m)
  case atStart => exact ⟨_, _, _, _, _, _, rfl, rfl, HG.out⟩
  case round =>
    obtain ⟨gx, cx, n, gy, cy, m, rfl, rfl, hg⟩ := hrel
    have HR := Lib.hid hg
    have hnl := hg.lx
    have hml := hg.ly
    have hfu : 0 < gk := by have := hg.fuel; have := hg.x.pos; omega
    clear hg HG
    by_cases hex : ¬ 2 < (L n).length ∧ ¬ 2 < (L m).length
    · obtain ⟨e1, e2⟩ := hex
      obtain ⟨HA, HBw, HC⟩ := last_calls HR.out e1 e2 ht
      have d1 : decide ((2 : Int) < ((L n).length : Int)) = false := decide_eq_false (by omega)
      have d2 : decide ((2 : Int) < ((L m).length : Int)) = false := decide_eq_false (by omega)
      clear HR
      go_wp2_with fail
      refine HA.out.mono ?_
      rintro e w' ⟨rfl, rfl⟩
      go_wp2_with fail
      refine HBw.out.mono ?_
      rintro e w' ⟨rfl, rfl⟩
      go_wp2_with fail
      refine HC.out.mono ?_
      rintro e w4 ⟨d, rfl, HO⟩
      clear HA HBw HC d1 d2 e1 e2
      go_wp2_with fail
      refine HO.out.mono ?_
      rintro e w5 ⟨a5, c5, rfl, HRs⟩
      clear HO
      go_wp2_with fail
      refine HRs.out.mono ?_
      rintro e w6 ⟨a6, c6, rfl, hn6, hb6⟩
      have HE := Lib.hid (And.intro hn6 hb6)
      clear hn6 hb6 HRs
      go_wp2_with fail
      go_ret
      exact ⟨a6, c6, rfl, HE.out.1, HE.out.2⟩
    · have hgo : ((decide ((2 : Int) < ((L n).length : Int)) = true) ∧ (2 : Int) < ((L n).length : Int)) ∨ (decide ((2 : Int) < ((L n).length : Int)) = false ∧ decide ((2 : Int) < ((L m).length : Int)) = true ∧ (2 : Int) < ((L m).length : Int)) := by
        by_cases e1 : 2 < (L n).length
        · exact .inl ⟨decide_eq_true (by omega), by omega⟩
        · exact .inr ⟨decide_eq_false (by omega), decide_eq_true (by omega), by omega⟩
      have HCM := Lib.hid (compare_num (some ⟨gx, 0, none⟩) (some ⟨gy, 0, none⟩) cx cy n m wr HR.out.x.num HR.out.y.num (by omega))
      clear hex
      have hcs : (cmpI (n : Int) (m : Int) = 0 ∧ n = m) ∨ (cmpI (n : Int) (m : Int) = 1 ∧ m < n) ∨ (cmpI (n : Int) (m : Int) = -1 ∧ n < m) := by
        unfold cmpI
        rcases Nat.lt_trichotomy n m with h | h | h
        · rw [if_pos (by omega)]; exact .inr (.inr ⟨rfl, h⟩)
        · rw [if_neg (by omega), if_pos (by omega)]; exact .inl ⟨rfl, h⟩
        · rw [if_neg (by omega), if_neg (by omega)]; exact .inr (.inl ⟨rfl, h⟩)
      generalize cmpI (n : Int) (m : Int) = cm at *
      rcases hgo with ⟨d1, d2⟩ | ⟨d1, d2, d3⟩
      all_goals
        rcases hcs with ⟨rfl, he⟩ | ⟨rfl, he⟩ | ⟨rfl, he⟩
        · have hd : n * 2 ^ t = G := by have := HR.out.gcd; rw [← he, Nat.gcd_self] at this; exact this
          have HRA := Lib.hid (fun (w4 : World) (hb : Below wr.heap.size wr w4) => raise_end (HR.out.kept hb).x.num HR.out.lx ht hd (HR.out.kept hb).below (HR.out.kept hb).size)
          clear he hd HR
          go_wp2_with fail
          refine HCM.out.mono ?_
          rintro e w4 ⟨rfl, hb4⟩
          have HRB := Lib.hid (HRA.out w4 hb4)
          clear HRA hb4 HCM
          go_wp2_with fail
          refine HRB.out.mono ?_
          rintro e w6 ⟨a6, c6, rfl, hn6, hb6⟩
          have HE := Lib.hid (And.intro hn6 hb6)
          clear hn6 hb6 HRB
          go_wp2_with fail
          go_ret
          exact ⟨a6, c6, rfl, HE.out.1, HE.out.2⟩
        · have HRC := Lib.hid (fun (w4 : World) (hb : Below wr.heap.size wr w4) => round_calls (HR.out.kept hb) he hB)
          clear he HR
          go_wp2_with fail
          refine HCM.out.mono ?_
          rintro e w4 ⟨rfl, hb4⟩
          have HT := Lib.hid (HRC.out w4 hb4).out
          clear HRC hb4 HCM
          go_wp2_with fail
          refine HT.out.mono ?_
          rintro e w5 ⟨c5, rfl, HZ⟩
          clear HT
          go_wp2_with fail
          refine HZ.out.mono ?_
          rintro e w6 ⟨kk, rfl, rfl, HS⟩
          clear HZ
          go_wp2_with fail
          refine HS.out.mono ?_
          rintro e w7 ⟨c7, n7, rfl, HN⟩
          clear HS
          go_wp2_with fail
          go_roundg (gk - 1)
          case rel => exact ⟨_, _, _, _, _, _, rfl, rfl, HN.out⟩
          case measure => omega
        · have HRC := Lib.hid (fun (w4 : World) (hb : Below wr.heap.size wr w4) => round_calls (HR.out.kept hb).swap he hB)
          clear he HR
          go_wp2_with fail
          refine HCM.out.mono ?_
          rintro e w4 ⟨rfl, hb4⟩
          have HT := Lib.hid (HRC.out w4 hb4).out
          clear HRC hb4 HCM
          go_wp2_with fail
          refine HT.out.mono ?_
          rintro e w5 ⟨c5, rfl, HZ⟩
          clear HT
          go_wp2_with fail
          refine HZ.out.mono ?_
          rintro e w6 ⟨kk, rfl, rfl, HS⟩
          clear HZ
          go_wp2_with fail
          refine HS.out.mono ?_
          rintro e w7 ⟨c7, n7, rfl, HN⟩
          clear HS
          go_wp2_with fail
          go_roundg (gk - 1)
          case rel => exact ⟨_, _, _, _, _, _, rfl, rfl, HN.out⟩
          case measure => omega
end Go.Proofs.YtodedlnpokagfaaDoor


/-
  nat.gcd; the bench's Gcd.
-/
set_option linter.unusedVariables false
set_option linter.unusedSimpArgs false
namespace Go.Proofs.YtodedlnpokagfaaDoor
open Go.RowKit Rep

theorem Own.pos_at {B c n : Nat} {w : World} {a : Option Addr} (h : Own B w a c (L n)) (hn : 0 < n) : ∃ g, a = some ⟨g, 0, none⟩ ∧ PosAt B w g c n := by
  have hpos : 0 < (L n).length := Nat.pos_of_ne_zero fun e => by rw [L_len_zero] at e; omega
  obtain ⟨g, rfl, hg, hr⟩ := h.row hpos
  exact ⟨g, rfl, hr, hg, h.1, hn⟩

theorem gcd_calls {w w1 : World} {a1 a2 : Option Addr} {c1 c2 n1 n2 G : Nat} (hb : Below w.heap.size w w1) (h1 : NumAt w a1 c1 n1) (h2 : NumAt w a2 c2 n2) (hT : Tab w) (hn2 : 0 < n2) (l1 : (L n1).length ≤ 1000000) (l2 : (L n2).length ≤ 1000000) (hG : Nat.gcd n1 n2 = G) :
    Hid (Calls Tryd.prog 70 #[.slice a1 (L n1).length c1, .slice a2 (L n2).length c2] w1 fun e w2 => ∃ a3 c3 a4 c4 q r, e = .returned (.tuple #[.slice a3 (L q).length c3, .slice a4 (L r).length c4]) ∧
      Hid (r = 0 → Calls Tryd.prog 69 #[.slice a2 (L n2).length c2] w2 fun e w3 => ∃ a c, e = .returned (.slice a (L n2).length c) ∧ Hid (n2 = G ∧ NumAt w3 a c n2 ∧ Below w.heap.size w w3)) ∧
      Hid (0 < r → (L n2).length ≤ 2 → (Calls Tryd.prog 73 #[.slice a2 (L n2).length c2] w2 (Gives (.int .u64 (n2 : Int)) w2)) ∧ (Calls Tryd.prog 73 #[.slice a4 (L r).length c4] w2 (Gives (.int .u64 (r : Int)) w2)) ∧
        (Calls Tryd.prog 72 #[.int .u64 (n2 : Int), .int .u64 (r : Int)] w2 fun e w3 => e = .returned (.int .u64 (G : Int)) ∧ Hid (Calls Tryd.prog 71 #[.int .u64 (G : Int)] w3 (GivesBelow w.heap.size G w)))) ∧
      Hid (0 < r → Calls Tryd.prog 69 #[.slice a2 (L n2).length c2] w2 fun e w3 => ∃ a5 c5, e = .returned (.slice a5 (L n2).length c5) ∧ Hid (Calls Tryd.prog 74 #[.slice a5 (L n2).length c5, .slice a4 (L r).length c4] w3 (GivesBelow w.heap.size G w)))) := by
  refine Lib.hid ((divide_any a1 a2 c1 c2 n1 n2 w1 (h1.kept hb) (h2.kept hb) hn2 l1).mono ?_)
  rintro e w2 hd
  obtain ⟨a3, c3, a4, c4, rfl, o1, o2, hB⟩ := hd.mono hb
  have h22 := h2.kept hB
  have hlr : (L (n1 % n2)).length ≤ 1000000 := Nat.le_trans (rep_len_mono (by omega) (Nat.le_of_lt (Nat.mod_lt n1 hn2))) l2
  have hGr : Nat.gcd n2 (n1 % n2) = G := by rw [← hG, Nat.gcd_comm n1 n2, Nat.gcd_rec n2 n1, Nat.gcd_comm]
  have hs : w.heap.size ≤ w2.heap.size := hB.size
  refine ⟨a3, c3, a4, c4, n1 / n2, n1 % n2, rfl, Lib.hid fun h0 => ?_, Lib.hid fun h0 hl => ?_, Lib.hid fun h0 => ?_⟩
  · refine (clone_any a2 c2 n2 w2 h22 (by omega)).mono ?_
    rintro e w3 ⟨a, c, rfl, ho, hb3⟩
    rw [h0, Nat.gcd_zero_right] at hGr
    exact ⟨a, c, rfl, Lib.hid ⟨hGr, ho.num, hB.trans (hb3.mono hs)⟩⟩
  · have b2 := word_lt (n := n2) (by omega)
    have br : n1 % n2 < 18446744073709551616 := Nat.lt_trans (Nat.mod_lt n1 hn2) b2
    have hlr2 : (L (n1 % n2)).length ≤ 2 := (L_len _ _).2 (by omega)
    refine ⟨?_, ?_, ?_⟩
    · have := word_any a2 (L n2) c2 w2 (L_lim n2) h22.1 hl
      rwa [V_L] at this
    · have := word_any a4 (L (n1 % n2)) c4 w2 (L_lim _) o2.reads hlr2
      rwa [V_L] at this
    · refine (gcdWord_any n2 (n1 % n2) w2 b2 br).mono ?_
      rintro e w3 ⟨rfl, nd, rfl⟩
      rw [hGr]
      have hG2 : G < 18446744073709551616 := by
        rw [← hGr]; exact Nat.lt_of_le_of_lt (Nat.le_of_dvd hn2 (Nat.gcd_dvd_left _ _)) b2
      refine ⟨rfl, Lib.hid ?_⟩
      refine (of_any G hG2 (w2.drewN nd)).mono ?_
      rintro e w4 ⟨a, c, rfl, hat, hb4⟩
      have hB2 : Below w.heap.size w (w2.drewN nd) := ⟨hB.os, hB.tape, hB.output, hB.size, hB.block⟩
      exact ⟨a, c, rfl, hat, hB2.trans (hb4.mono hs)⟩
  · refine (clone_any a2 c2 n2 w2 h22 (by omega)).mono ?_
    rintro e w3 ⟨a5, c5, rfl, ho, hb3⟩
    obtain ⟨g4, rfl, p4⟩ := o2.pos_at h0
    obtain ⟨g5, rfl, p5⟩ := ho.pos_at hn2
    have hg4 := p4.row.lt
    have p4' : PosAt w.heap.size w3 g4 c4 (n1 % n2) := ⟨p4.row.kept hb3, p4.ge, p4.cap, p4.pos⟩
    have p5' : PosAt w.heap.size w3 g5 c5 n2 := ⟨p5.row, Nat.le_trans hs p5.ge, p5.cap, p5.pos⟩
    have hne : g5 ≠ g4 := by have := p5.ge; omega
    have htb : 0 < w.heap.size := World.block_lt_of_cell? w _ (hT 0 (by decide))
    refine ⟨_, c5, rfl, Lib.hid ?_⟩
    refine (gcdLong_any w.heap.size g5 c5 n2 g4 c4 (n1 % n2) w3 p5' p4' hne htb ((hT.kept hB).kept hb3) l2 hlr).mono ?_
    rintro e w4 ⟨a, c, rfl, hn, hb4⟩
    rw [hGr] at hn ⊢
    exact ⟨a, c, rfl, hn, (hB.trans (hb3.mono hs)).trans hb4⟩

set_option maxRecDepth 100000 in
set_option maxHeartbeats 4000000 in
theorem gcd_any (ax ay : Option Addr) (cx cy N M : Nat) (w : World) (hx : NumAt w ax cx N) (hy : NumAt w ay cy M) (hT : Tab w) (lx : (L N).length ≤ 1000000) (ly : (L M).length ≤ 1000000) :
    Calls Tryd.prog 61 #[.slice ax (L N).length cx, .slice ay (L M).length cy] w (GivesBelow w.heap.size (Nat.gcd N M) w) := by
  have HCM := Lib.hid (compare_num ax ay cx cy N M w hx hy (by omega))
  have hcs : (cmpI (N : Int) (M : Int) < 0 ∧ N < M) ∨ (¬ cmpI (N : Int) (M : Int) < 0 ∧ M ≤ N) := by
    unfold cmpI
    by_cases h : N < M
    · rw [if_pos (by omega)]; exact .inl ⟨by omega, h⟩
    · rw [if_neg (by omega)]; refine .inr ⟨?_, by omega⟩; split <;> omega
  obtain ⟨G, hG⟩ : ∃ G, Nat.gcd N M = G := ⟨_, rfl⟩
  rw [hG]
  generalize cmpI (N : Int) (M : Int) = cm at *
  go_enter Tryd.func61, Tryd.ntmps61
  go_wp2_with fail
  refine HCM.out.mono ?_
  rintro e w1 ⟨rfl, hb1⟩
  have HB := Lib.hid hb1
  clear HCM hb1
  rcases hcs with ⟨hc, hle⟩ | ⟨hc, hle⟩
  · obtain ⟨a1, rfl⟩ : ∃ z, z = ay := ⟨_, rfl⟩
    obtain ⟨a2, rfl⟩ : ∃ z, z = ax := ⟨_, rfl⟩
    obtain ⟨c1, rfl⟩ : ∃ z, z = cy := ⟨_, rfl⟩
    obtain ⟨c2, rfl⟩ : ∃ z, z = cx := ⟨_, rfl⟩
    obtain ⟨n1, rfl⟩ : ∃ z, z = M := ⟨_, rfl⟩
    obtain ⟨n2, rfl⟩ : ∃ z, z = N := ⟨_, rfl⟩
    rw [Nat.gcd_comm] at hG
    have H1 := Lib.hid (And.intro hy (And.intro hx (And.intro hT hG)))
    have hl1 := ly
    have hl2 := lx
    clear hx hy hT hG hle lx ly
    rcases Nat.eq_zero_or_pos n2 with h0 | h0
    · have HG : Hid (n1 = G) := Lib.hid (by have := H1.out.2.2.2; rw [h0, Nat.gcd_zero_right] at this; exact this)
      have hz : (((L n2).length : Int) == 0) = true := by rw [h0]; rfl
      have HC := Lib.hid (clone_any a1 c1 n1 w1 (H1.out.1.kept HB.out) (by omega))
      clear h0 H1
      go_wp2_with fail
      refine HC.out.mono ?_
      rintro e w2 ⟨a, c, rfl, ho, hb⟩
      have HE := Lib.hid (And.intro ho.num (HB.out.trans (hb.mono HB.out.size)))
      clear ho hb HC
      go_wp2_with fail
      go_ret
      exact ⟨a, c, by rw [← HG.out]; rfl, by rw [← HG.out]; exact HE.out.1, HE.out.2⟩
    · have hz : (((L n2).length : Int) == 0) = false := cast_beq_no (by rw [Ne, L_len_zero]; omega)
      have HD := gcd_calls HB.out H1.out.1 H1.out.2.1 H1.out.2.2.1 h0 hl1 hl2 H1.out.2.2.2
      clear H1
      go_wp2_with fail
      refine HD.out.mono ?_
      rintro e w2 ⟨a3, c3, a4, c4, q, r, rfl, HA, HW, HL⟩
      clear HD hz
      rcases Nat.eq_zero_or_pos r with hr | hr
      · have hz : (((L r).length : Int) == 0) = true := by rw [hr]; rfl
        have HA2 := Lib.hid (HA.out hr)
        clear HA HW HL hr
        go_wp2_with fail
        refine HA2.out.mono ?_
        rintro e w3 ⟨a, c, rfl, HE⟩
        clear HA2
        go_wp2_with fail
        go_ret
        exact ⟨a, c, by rw [← HE.out.1]; rfl, by rw [← HE.out.1]; exact HE.out.2.1, HE.out.2.2⟩
      · have hz : (((L r).length : Int) == 0) = false := cast_beq_no (by rw [Ne, L_len_zero]; omega)
        by_cases hl : (L n2).length ≤ 2
        · have hd : decide (((L n2).length : Int) ≤ 2) = true := decide_eq_true (by omega)
          have hdi : ((L n2).length : Int) ≤ 2 := by omega
          have HW2 := Lib.hid (HW.out hr hl)
          clear HA HW HL hr hl
          go_wp2_with fail
          refine HW2.out.1.mono ?_
          rintro e w' ⟨rfl, rfl⟩
          go_wp2_with fail
          refine HW2.out.2.1.mono ?_
          rintro e w' ⟨rfl, rfl⟩
          go_wp2_with fail
          refine HW2.out.2.2.mono ?_
          rintro e w3 ⟨rfl, HO⟩
          clear HW2
          go_wp2_with fail
          refine HO.out.mono ?_
          rintro e w4 ⟨a, c, rfl, hn, hb⟩
          have HE := Lib.hid (And.intro hn hb)
          clear hn hb HO
          go_wp2_with fail
          go_ret
          exact ⟨a, c, rfl, HE.out.1, HE.out.2⟩
        · have hd : decide (((L n2).length : Int) ≤ 2) = false := decide_eq_false (by omega)
          have hdi : ¬ ((L n2).length : Int) ≤ 2 := by omega
          have HL2 := Lib.hid (HL.out hr)
          clear HA HW HL hr hl
          go_wp2_with fail
          refine HL2.out.mono ?_
          rintro e w3 ⟨a5, c5, rfl, HG⟩
          clear HL2
          go_wp2_with fail
          refine HG.out.mono ?_
          rintro e w4 ⟨a, c, rfl, hn, hb⟩
          have HE := Lib.hid (And.intro hn hb)
          clear hn hb HG
          go_wp2_with fail
          go_ret
          exact ⟨a, c, rfl, HE.out.1, HE.out.2⟩
  · obtain ⟨a1, rfl⟩ : ∃ z, z = ax := ⟨_, rfl⟩
    obtain ⟨a2, rfl⟩ : ∃ z, z = ay := ⟨_, rfl⟩
    obtain ⟨c1, rfl⟩ : ∃ z, z = cx := ⟨_, rfl⟩
    obtain ⟨c2, rfl⟩ : ∃ z, z = cy := ⟨_, rfl⟩
    obtain ⟨n1, rfl⟩ : ∃ z, z = N := ⟨_, rfl⟩
    obtain ⟨n2, rfl⟩ : ∃ z, z = M := ⟨_, rfl⟩
    have H1 := Lib.hid (And.intro hx (And.intro hy (And.intro hT hG)))
    have hl1 := lx
    have hl2 := ly
    clear hx hy hT hG hle lx ly
    rcases Nat.eq_zero_or_pos n2 with h0 | h0
    · have HG : Hid (n1 = G) := Lib.hid (by have := H1.out.2.2.2; rw [h0, Nat.gcd_zero_right] at this; exact this)
      have hz : (((L n2).length : Int) == 0) = true := by rw [h0]; rfl
      have HC := Lib.hid (clone_any a1 c1 n1 w1 (H1.out.1.kept HB.out) (by omega))
      clear h0 H1
      go_wp2_with fail
      refine HC.out.mono ?_
      rintro e w2 ⟨a, c, rfl, ho, hb⟩
      have HE := Lib.hid (And.intro ho.num (HB.out.trans (hb.mono HB.out.size)))
      clear ho hb HC
      go_wp2_with fail
      go_ret
      exact ⟨a, c, by rw [← HG.out]; rfl, by rw [← HG.out]; exact HE.out.1, HE.out.2⟩
    · have hz : (((L n2).length : Int) == 0) = false := cast_beq_no (by rw [Ne, L_len_zero]; omega)
      have HD := gcd_calls HB.out H1.out.1 H1.out.2.1 H1.out.2.2.1 h0 hl1 hl2 H1.out.2.2.2
      clear H1
      go_wp2_with fail
      refine HD.out.mono ?_
      rintro e w2 ⟨a3, c3, a4, c4, q, r, rfl, HA, HW, HL⟩
      clear HD hz
      rcases Nat.eq_zero_or_pos r with hr | hr
      · have hz : (((L r).length : Int) == 0) = true := by rw [hr]; rfl
        have HA2 := Lib.hid (HA.out hr)
        clear HA HW HL hr
        go_wp2_with fail
        refine HA2.out.mono ?_
        rintro e w3 ⟨a, c, rfl, HE⟩
        clear HA2
        go_wp2_with fail
        go_ret
        exact ⟨a, c, by rw [← HE.out.1]; rfl, by rw [← HE.out.1]; exact HE.out.2.1, HE.out.2.2⟩
      · have hz : (((L r).length : Int) == 0) = false := cast_beq_no (by rw [Ne, L_len_zero]; omega)
        by_cases hl : (L n2).length ≤ 2
        · have hd : decide (((L n2).length : Int) ≤ 2) = true := decide_eq_true (by omega)
          have hdi : ((L n2).length : Int) ≤ 2 := by omega
          have HW2 := Lib.hid (HW.out hr hl)
          clear HA HW HL hr hl
          go_wp2_with fail
          refine HW2.out.1.mono ?_
          rintro e w' ⟨rfl, rfl⟩
          go_wp2_with fail
          refine HW2.out.2.1.mono ?_
          rintro e w' ⟨rfl, rfl⟩
          go_wp2_with fail
          refine HW2.out.2.2.mono ?_
          rintro e w3 ⟨rfl, HO⟩
          clear HW2
          go_wp2_with fail
          refine HO.out.mono ?_
          rintro e w4 ⟨a, c, rfl, hn, hb⟩
          have HE := Lib.hid (And.intro hn hb)
          clear hn hb HO
          go_wp2_with fail
          go_ret
          exact ⟨a, c, rfl, HE.out.1, HE.out.2⟩
        · have hd : decide (((L n2).length : Int) ≤ 2) = false := decide_eq_false (by omega)
          have hdi : ¬ ((L n2).length : Int) ≤ 2 := by omega
          have HL2 := Lib.hid (HL.out hr)
          clear HA HW HL hr hl
          go_wp2_with fail
          refine HL2.out.mono ?_
          rintro e w3 ⟨a5, c5, rfl, HG⟩
          clear HL2
          go_wp2_with fail
          refine HG.out.mono ?_
          rintro e w4 ⟨a, c, rfl, hn, hb⟩
          have HE := Lib.hid (And.intro hn hb)
          clear hn hb HG
          go_wp2_with fail
          go_ret
          exact ⟨a, c, rfl, HE.out.1, HE.out.2⟩

set_option maxRecDepth 100000 in
set_option maxHeartbeats 1000000 in
theorem Gcd_any (b m : Nat) (ax ay : Option Addr) (xs ys : List Nat) (cx cy : Nat) (w : World) (o : Bool) (h : Bench w b m o) (hx : NumIn w ax cx xs) (hy : NumIn w ay cy ys) (hT : Tab w) (lx : xs.length ≤ 1000000) (ly : ys.length ≤ 1000000) :
    Calls Tryd.prog 53 #[.pointer (some ⟨b, 0, none⟩), .slice ax xs.length cx, .slice ay ys.length cy] w (GivesOut b m o (Nat.gcd (V xs) (V ys)) w) := by
  cases o with
  | true => exact Gcd_over b m _ _ _ w h
  | false =>
    have h1 := h.c1
    have HB := Lib.hid h
    have hlx := cutAt_len xs hx.lim
    have hly := cutAt_len ys hy.lim
    have HT := Lib.hid hT
    clear h hT
    go_enter Tryd.func53, Tryd.ntmps53
    go_wp2_with fail
    refine (trim_num ax xs cx w hx.lim hx.reads hx.le hx.cap).mono ?_
    rintro e w' ⟨a1, c1, rfl, n1, rfl⟩
    go_wp2_with fail
    refine (trim_num ay ys cy w hy.lim hy.reads hy.le hy.cap).mono ?_
    rintro e w' ⟨a2, c2, rfl, n2, rfl⟩
    clear hx hy
    generalize V xs = N at *
    generalize V ys = M at *
    have HG := Lib.hid (gcd_any a1 a2 c1 c2 N M w n1 n2 HT.out (by omega) (by omega))
    generalize Nat.gcd N M = G at *
    clear n1 n2 HT
    go_wp2_with fail
    refine HG.out.mono ?_
    rintro e w1 ⟨a, c, rfl, hn, hb⟩
    have HF := Lib.hid (fit_out w w1 b m false a G c HB.out hn hb)
    clear hn hb HG h1
    go_wp2_with fail
    refine HF.out.mono ?_
    rintro e w2 ⟨a3, c3, rfl, hat, hb2, hg⟩
    have HE := Lib.hid (And.intro hat (And.intro hb2 hg))
    clear hat hb2 hg HF
    go_wp2_with fail
    go_ret
    exact ⟨a3, c3, rfl, HE.out.1, HE.out.2.1, HE.out.2.2⟩
end Go.Proofs.YtodedlnpokagfaaDoor


/-
  A bench with room enough, and numbers: what its calls give, said of one state.
-/
set_option linter.unusedVariables false
set_option linter.unusedSimpArgs false
namespace Go.Proofs.YtodedlnpokagfaaDoor
open Go.RowKit Rep

theorem remN_le (n m : Nat) : remN n m ≤ n := by
  unfold remN
  split
  · omega
  · exact Nat.mod_le _ _

/-- Where limbs lie: address, room, limbs. -/
abbrev Num := Option Addr × Nat × List Nat
/-- A bench that isn't over, in memory that came behind 'base', and numbers. -/
structure StB (b m : Nat) (base W : World) (l : List Num) : Prop where
  bench : Bench W b m false
  below : Below base.heap.size base W
  ge : base.heap.size ≤ b
  tab : Tab W
  max : m ≤ maxLen
  nums : ∀ t ∈ l, NumIn W t.1 t.2.1 t.2.2 ∧ t.2.2.length ≤ 100000

theorem StB.num {b m : Nat} {base W : World} {l : List Num} (h : StB b m base W l) {a : Option Addr} {c : Nat} {xs : List Nat} (hm : (a, c, xs) ∈ l) : NumIn W a c xs := (h.nums _ hm).1
theorem StB.len {b m : Nat} {base W : World} {l : List Num} (h : StB b m base W l) {a : Option Addr} {c : Nat} {xs : List Nat} (hm : (a, c, xs) ∈ l) : xs.length ≤ 100000 := (h.nums _ hm).2
theorem StB.grown {b m : Nat} {base W W' : World} {l : List Num} (h : StB b m base W l) (hb : Bench W' b m false) (hg : W.grownBy W' (some b)) : StB b m base W' l :=
  ⟨hb, h.below.grown hg h.below.size (fun k hk => by cases hk; exact h.ge), h.ge, h.tab.bench h.bench hg, h.max, fun t ht => ⟨(h.nums t ht).1.bench h.bench hg, (h.nums t ht).2⟩⟩
theorem StB.kept {b m : Nat} {base W W' : World} {l : List Num} (h : StB b m base W l) (hb : Below W.heap.size W W') : StB b m base W' l :=
  ⟨h.bench.kept hb, h.below.trans (hb.mono h.below.size), h.ge, h.tab.kept hb, h.max, fun t ht => ⟨(h.nums t ht).1.kept hb, (h.nums t ht).2⟩⟩
theorem StB.cons {b m : Nat} {base W : World} {l : List Num} (h : StB b m base W l) {a : Option Addr} {c : Nat} {xs : List Nat} (hx : NumIn W a c xs) (hl : xs.length ≤ 100000) : StB b m base W ((a, c, xs) :: l) :=
  ⟨h.bench, h.below, h.ge, h.tab, h.max, fun t ht => by
    rcases List.mem_cons.1 ht with rfl | ht
    · exact ⟨hx, hl⟩
    · exact h.nums t ht⟩
theorem StB.out {b m n : Nat} {base W W' : World} {l : List Num} {e : Ending} (h : StB b m base W l) (hg : GivesOut b m false n W e W') (hn : (L n).length ≤ m) (hl : (L n).length ≤ 100000) :
    ∃ a c, e = .returned (.slice a (L n).length c) ∧ Hid (StB b m base W' ((a, c, L n) :: l)) := by
  obtain ⟨a, c, rfl, hat, hb, hgr⟩ := hg
  have ho : outO m false n = false := by simp [outO]; omega
  have hN : outN m false n = n := by unfold outN; rw [ho]; rfl
  rw [ho] at hb
  rw [hN] at hat ⊢
  exact ⟨a, c, rfl, Lib.hid ((h.grown hb hgr).cons (hat.inn (by omega)) hl)⟩

section
variable {b m n k : Nat} {base W : World} {l : List Num} {ax ay : Option Addr} {cx cy : Nat} {xs ys : List Nat}

theorem StB.gcd (h : StB b m base W l) (hx : (ax, cx, xs) ∈ l) (hy : (ay, cy, ys) ∈ l) (hn : V xs = n) (hk : V ys = k) {s : Nat} (hs : Nat.gcd n k = s) (hf : (L s).length ≤ m) (hl : (L s).length ≤ 100000) :
    Calls Tryd.prog 53 #[.pointer (some ⟨b, 0, none⟩), .slice ax xs.length cx, .slice ay ys.length cy] W fun e W' => ∃ a c, e = .returned (.slice a (L s).length c) ∧ Hid (StB b m base W' ((a, c, L s) :: l)) := by
  subst hn hk hs
  exact (Gcd_any b m ax ay xs ys cx cy W false h.bench (h.num hx) (h.num hy) h.tab (by have := h.len hx; omega) (by have := h.len hy; omega)).mono fun e W' hg => h.out hg hf hl
theorem StB.same (h : StB b m base W l) (hx : (ax, cx, L n) ∈ l) (hy : (ay, cy, L k) ∈ l) (hnk : n = k) :
    Calls Tryd.prog 44 #[.slice ax (L n).length cx, .slice ay (L k).length cy] W fun e W' => e = .returned (.bool true) ∧ Hid (StB b m base W' l) := by
  subst hnk
  refine (Same_any ax ay cx cy (L n) (L n) W (h.num hx).reads (h.num hy).reads (by have := h.len hx; omega)).mono ?_
  rintro e W' ⟨rfl, nd, rfl⟩
  exact ⟨by simp, Lib.hid (h.kept ⟨rfl, rfl, rfl, Nat.le_refl _, fun _ _ => rfl⟩)⟩
theorem StB.of (h : StB b m base W l) (hx : (ax, cx, xs) ∈ l) (hn : V xs = n) :
    Calls Tryd.prog 56 #[.slice ax xs.length cx] W fun e W' => ∃ a c, e = .returned (.slice a (D n).length c) ∧ Hid (StB b m base W' l ∧ DAt W' a c n) := by
  subst hn
  refine (OfD_any ax xs cx W (h.num hx).lim (h.num hx).reads (by have := h.len hx; omega)).mono ?_
  rintro e W' ⟨a, c, rfl, hd, hb, _⟩
  exact ⟨a, c, rfl, Lib.hid ⟨h.kept hb, hd⟩⟩
theorem StB.cmp (h : StB b m base W l) (hx : (ax, cx, xs) ∈ l) (hy : (ay, cy, ys) ∈ l) (hn : V xs = n) (hk : V ys = k) :
    Calls Tryd.prog 51 #[.slice ax xs.length cx, .slice ay ys.length cy] W fun e W' => e = .returned (.int .i64 (cmpI n k)) ∧ Hid (StB b m base W' l) := by
  subst hn hk
  refine (Cmp_any ax ay xs ys cx cy W (h.num hx).lim (h.num hy).lim (h.num hx).reads (h.num hy).reads (by have := h.len hx; omega) (h.num hx).le (h.num hx).cap (h.num hy).le (h.num hy).cap).mono ?_
  rintro e W' ⟨rfl, hb⟩
  exact ⟨rfl, Lib.hid (h.kept hb)⟩
theorem StB.zero (h : StB b m base W l) : StB b m base W ((none, 0, []) :: l) := h.cons ((NumAt.zero W).inn (by simp [L_zero])) (by simp)
end

theorem L_add {n k a b : Nat} (h1 : (L n).length ≤ a) (h2 : (L k).length ≤ b) : (L (n + k)).length ≤ max a b + 1 := by
  rw [L_len] at *
  have p1 : 4294967296 ^ a ≤ 4294967296 ^ max a b := Nat.pow_le_pow_right (by omega) (by omega)
  have p2 : 4294967296 ^ b ≤ 4294967296 ^ max a b := Nat.pow_le_pow_right (by omega) (by omega)
  rw [Nat.pow_succ]
  omega
theorem L_mul {n k a b : Nat} (h1 : (L n).length ≤ a) (h2 : (L k).length ≤ b) : (L (n * k)).length ≤ a + b := by
  rw [L_len] at *
  rw [Nat.pow_add]
  exact Nat.mul_lt_mul'' h1 h2
theorem L_le {n k a : Nat} (h1 : (L n).length ≤ a) (h : k ≤ n) : (L k).length ≤ a := Nat.le_trans (rep_len_mono (by omega) h) h1
theorem L_gcd {n k a b : Nat} (h1 : (L n).length ≤ a) (h2 : (L k).length ≤ b) : (L (Nat.gcd n k)).length ≤ max a b := by
  rcases Nat.eq_zero_or_pos n with h | h
  · subst h; rw [Nat.gcd_zero_left]; omega
  · have := L_le h1 (Nat.le_of_dvd h (Nat.gcd_dvd_left n k)); omega
theorem V_len {xs : List Nat} {a : Nat} (h : Lim xs) (hl : xs.length ≤ a) : (L (V xs)).length ≤ a := Nat.le_trans (cutAt_len xs h) hl
end Go.Proofs.YtodedlnpokagfaaDoor


/-
  Ratio's helpers on natural numbers: isZero, isOne, common, without, cancel.
-/
set_option linter.unusedVariables false
set_option linter.unusedSimpArgs false
namespace Go.Proofs.YtodedlnpokagfaaDoor
open Go.RowKit Rep

/-- At a lie so many limbs, which tell n. -/
structure NumE (w : World) (a : Option Addr) (len c n : Nat) : Prop where
  ex : ∃ xs : List Nat, xs.length = len ∧ V xs = n ∧ NumIn w a c xs
theorem NumE.kept {w w' : World} {a : Option Addr} {len c n : Nat} (h : NumE w a len c n) (hb : Below w.heap.size w w') : NumE w' a len c n := by
  obtain ⟨xs, h1, h2, h3⟩ := h.ex
  exact ⟨xs, h1, h2, h3.kept hb⟩
theorem NumE.of {w : World} {a : Option Addr} {c n : Nat} (h : NumAt w a c n) (hl : (L n).length ≤ 1073741824) : NumE w a (L n).length c n := ⟨L n, rfl, V_L n, h.inn hl⟩
theorem NumE.inn {w : World} {a : Option Addr} {c : Nat} {xs : List Nat} (h : NumIn w a c xs) : NumE w a xs.length c (V xs) := ⟨xs, rfl, rfl, h⟩
theorem NumE.lenL {w : World} {a : Option Addr} {len c n : Nat} (h : NumE w a len c n) : (L n).length ≤ len := by
  obtain ⟨xs, rfl, rfl, h3⟩ := h.ex
  exact cutAt_len xs h3.lim
theorem NumE.zero (w : World) : NumE w none 0 0 0 := ⟨[], rfl, rfl, (NumAt.zero w).inn (by simp [L_zero])⟩
theorem NumE.one (w : World) : NumE (w.alloc (.cells #[.int .u32 1] 71)) (some ⟨w.heap.size, 0, none⟩) 1 1 1 := ⟨[1], rfl, rfl, limbs1 w 1 (by omega)⟩
/-- A call gives n, in so many limbs at most, and leaves what there was as it was. -/
def GivesE (k n : Nat) (w : World) (e : Ending) (w' : World) : Prop := ∃ a len c, e = .returned (.slice a len c) ∧ NumE w' a len c n ∧ len ≤ k ∧ Below w.heap.size w w'
/-- A call tells a truth, and leaves what there was as it was. -/
def GivesB (v : Bool) (w : World) (e : Ending) (w' : World) : Prop := e = .returned (.bool v) ∧ Below w.heap.size w w'

theorem cmpE {w : World} {a b : Option Addr} {la lb ca cb n k : Nat} (h1 : NumE w a la ca n) (h2 : NumE w b lb cb k) : Calls Tryd.prog 51 #[.slice a la ca, .slice b lb cb] w (GivesInt (cmpI n k) w) := by
  obtain ⟨xs, rfl, rfl, hx⟩ := h1.ex
  obtain ⟨ys, rfl, rfl, hy⟩ := h2.ex
  exact Cmp_any a b xs ys ca cb w hx.lim hy.lim hx.reads hy.reads hx.len hx.le hx.cap hy.le hy.cap
theorem cmp_ne {n k : Nat} (h : n ≠ k) : ((cmpI (n : Int) (k : Int)) == 0) = false := by
  unfold cmpI
  by_cases h1 : n < k
  · rw [if_pos (by omega)]; rfl
  · rw [if_neg (by omega), if_neg (by omega)]; rfl

set_option maxRecDepth 100000 in
set_option maxHeartbeats 400000 in
theorem isOne_any {w : World} {a : Option Addr} {len c n : Nat} (h : NumE w a len c n) : Calls Tryd.prog 46 #[.slice a len c] w (GivesB (decide (n = 1)) w) := by
  have hb0 : Below w.heap.size w (w.alloc (.cells #[.int .u32 1] 71)) := (Below.refl _ _).alloc (Nat.le_refl _) _
  have HC := Lib.hid (cmpE (h.kept hb0) (NumE.one w))
  have HB0 := Lib.hid hb0
  clear h hb0
  by_cases hn : n = 1
  · rw [hn, cmpI_self] at HC
    rw [decide_eq_true hn]
    clear hn
    go_enter Tryd.func46, Tryd.ntmps46
    go_wp2_with fail
    refine HC.out.mono ?_
    rintro e w2 ⟨rfl, hb⟩
    have HB := Lib.hid (HB0.out.trans (hb.mono HB0.out.size))
    clear hb HC
    go_wp2_with fail
    go_ret
    exact ⟨rfl, HB.out⟩
  · have hz := cmp_ne hn
    rw [decide_eq_false hn]
    generalize cmpI (n : Int) ((1 : Nat) : Int) = cm at *
    clear hn
    go_enter Tryd.func46, Tryd.ntmps46
    go_wp2_with fail
    refine HC.out.mono ?_
    rintro e w2 ⟨rfl, hb⟩
    have HB := Lib.hid (HB0.out.trans (hb.mono HB0.out.size))
    clear hb HC
    go_wp2_with fail
    go_ret
    exact ⟨rfl, HB.out⟩

/-- The bench for what is reckoned on the way. -/
abbrev wayW (w : World) : World := w.alloc (.cells #[.int .i64 2147483647, .bool false] 100)
theorem wayW_below (w : World) : Below w.heap.size w (wayW w) := (Below.refl _ _).alloc (Nat.le_refl _) _
theorem wayW_bench (w : World) : Bench (wayW w) w.heap.size 2147483647 false := heap_alloc_new w _
set_option maxRecDepth 100000 in
set_option maxHeartbeats 400000 in
theorem unbounded_any (w : World) : Calls Tryd.prog 52 #[] w fun e w' => e = .returned (.pointer (some ⟨w.heap.size, 0, none⟩)) ∧ w' = wayW w := by
  have HN := Lib.hid (new_high 2147483647 w (by omega) (by unfold maxLen; omega))
  go_enter Tryd.func52, Tryd.ntmps52
  go_wp2_with fail
  refine HN.out.mono ?_
  rintro e w2 ⟨rfl, rfl⟩
  go_wp2_with fail
  go_ret
  exact ⟨rfl, rfl⟩

/-- A call on such a bench that is fresh: what it gives, where it doesn't become over. -/
theorem wayE {w W w' : World} {e : Ending} {n k : Nat} (hW : Below w.heap.size w W) (hg : GivesOut W.heap.size 2147483647 false n (wayW W) e w') (hl : (L n).length ≤ k) (hk : k ≤ 1000000) : GivesE k n w e w' := by
  obtain ⟨a, c, rfl, hat, hb, hgr⟩ := hg
  have ho : outO 2147483647 false n = false := by simp [outO]; omega
  have hN : outN 2147483647 false n = n := by unfold outN; rw [ho]; rfl
  rw [hN] at hat ⊢
  have hB : Below W.heap.size W w' := (wayW_below W).grown hgr (by simp) (fun k hk => by cases hk; exact Nat.le_refl _)
  exact ⟨a, _, c, rfl, NumE.of hat (by omega), hl, hW.trans (hB.mono hW.size)⟩

theorem gcdE {w W : World} {a b : Option Addr} {la lb ca cb n k : Nat} (h1 : NumE w a la ca n) (h2 : NumE w b lb cb k) (hT : Tab w) (hW : Below w.heap.size w W) (hl1 : la ≤ 1000000) (hl2 : lb ≤ 1000000) :
    Calls Tryd.prog 53 #[.pointer (some ⟨W.heap.size, 0, none⟩), .slice a la ca, .slice b lb cb] (wayW W) (GivesE (max la lb) (Nat.gcd n k) w) := by
  have hk1 := L_gcd h1.lenL h2.lenL
  obtain ⟨xs, rfl, rfl, hx⟩ := h1.ex
  obtain ⟨ys, rfl, rfl, hy⟩ := h2.ex
  exact (Gcd_any W.heap.size 2147483647 a b xs ys ca cb (wayW W) false (wayW_bench W) ((hx.kept hW).kept (wayW_below W)) ((hy.kept hW).kept (wayW_below W)) ((hT.kept hW).kept (wayW_below W)) hl1 hl2).mono fun e w' hg => wayE hW hg hk1 (by omega)
set_option maxRecDepth 100000 in
set_option maxHeartbeats 1000000 in
theorem common_any {w : World} {a b : Option Addr} {la lb ca cb n k : Nat} (h1 : NumE w a la ca n) (h2 : NumE w b lb cb k) (hT : Tab w) (hl1 : la ≤ 1000000) (hl2 : lb ≤ 1000000) :
    Calls Tryd.prog 47 #[.slice a la ca, .slice b lb cb] w (GivesE (max la lb + 1) (Nat.gcd n k) w) := by
  have HI1 := Lib.hid (isOne_any h1)
  have HI2 := Lib.hid (fun (W : World) (h : Below w.heap.size w W) => isOne_any (h2.kept h))
  have HG := Lib.hid (fun (W : World) (h : Below w.heap.size w W) => gcdE h1 h2 hT h hl1 hl2)
  clear h1 h2 hT
  by_cases c1 : n = 1
  · have hG : Nat.gcd n k = 1 := by rw [c1, Nat.gcd_one_left]
    rw [decide_eq_true c1] at HI1
    rw [hG]
    clear hG c1 HI2 HG
    go_enter Tryd.func47, Tryd.ntmps47
    go_wp2_with fail
    refine HI1.out.mono ?_
    rintro e w2 ⟨rfl, hb⟩
    have HE := Lib.hid (And.intro (NumE.one w2) (hb.alloc hb.size (.cells #[.int .u32 1] 71)))
    clear hb HI1
    go_wp2_with fail
    go_ret
    exact ⟨_, 1, 1, rfl, HE.out.1, by omega, HE.out.2⟩
  · rw [decide_eq_false c1] at HI1
    by_cases c2 : k = 1
    · have hG : Nat.gcd n k = 1 := by rw [c2, Nat.gcd_one_right]
      rw [decide_eq_true c2] at HI2
      rw [hG]
      clear hG c1 c2 HG
      go_enter Tryd.func47, Tryd.ntmps47
      go_wp2_with fail
      refine HI1.out.mono ?_
      rintro e w2 ⟨rfl, hb⟩
      have HB := Lib.hid hb
      clear hb HI1
      go_wp2_with fail
      refine (HI2.out w2 HB.out).mono ?_
      rintro e w3 ⟨rfl, hb3⟩
      have HE := Lib.hid (And.intro (NumE.one w3) ((HB.out.trans (hb3.mono HB.out.size)).alloc (Nat.le_trans HB.out.size hb3.size) (.cells #[.int .u32 1] 71)))
      clear hb3 HI2 HB
      go_wp2_with fail
      go_ret
      exact ⟨_, 1, 1, rfl, HE.out.1, by omega, HE.out.2⟩
    · rw [decide_eq_false c2] at HI2
      generalize Nat.gcd n k = G at *
      clear c1 c2
      go_enter Tryd.func47, Tryd.ntmps47
      go_wp2_with fail
      refine HI1.out.mono ?_
      rintro e w2 ⟨rfl, hb⟩
      have HB := Lib.hid hb
      clear hb HI1
      go_wp2_with fail
      refine (HI2.out w2 HB.out).mono ?_
      rintro e w3 ⟨rfl, hb3⟩
      have HG2 := Lib.hid (HG.out w3 (HB.out.trans (hb3.mono HB.out.size)))
      clear hb3 HI2 HB HG
      go_wp2_with fail
      refine (unbounded_any w3).mono ?_
      rintro e w4 ⟨rfl, rfl⟩
      go_wp2_with fail
      refine HG2.out.mono ?_
      rintro e w5 ⟨a5, l5, c5, rfl, hn, hl, hb⟩
      have HE := Lib.hid (And.intro hn (And.intro hl hb))
      clear hn hl hb HG2
      go_wp2_with fail
      go_ret
      exact ⟨a5, l5, c5, rfl, HE.out.1, by have := HE.out.2.1; omega, HE.out.2.2⟩

/-- Both numbers without what divides both. -/
def GivesC (k1 k2 n1 n2 : Nat) (w : World) (e : Ending) (w' : World) : Prop :=
  ∃ a1 l1 c1 a2 l2 c2, e = .returned (.tuple #[.slice a1 l1 c1, .slice a2 l2 c2]) ∧ NumE w' a1 l1 c1 n1 ∧ NumE w' a2 l2 c2 n2 ∧ l1 ≤ k1 ∧ l2 ≤ k2 ∧ Below w.heap.size w w'

end Go.Proofs.YtodedlnpokagfaaDoor


/-
  Ratios: where they lie; ratio.fit, ratio.Make.
-/
set_option linter.unusedVariables false
set_option linter.unusedSimpArgs false
namespace Go.Proofs.YtodedlnpokagfaaDoor
open Go.RowKit Rep

/-- What a denominator is told by: nothing, where it is 1. -/
def denN (d : Nat) : Nat := if d = 1 then 0 else d
/-- Is a bench over, behind a ratio? -/
def rO (m n d : Nat) : Bool := decide (m < (L n).length) || decide (m < (L (denN d)).length)
/-- A ratio as a value. -/
def ratV (s : Bool) (mag den : Value) : Value := .agg #[.bool s, mag, den]
/-- A ratio's parts: a sign, a magnitude, what its denominator is told by. -/
def rS (m : Nat) (s : Bool) (n d : Nat) : Bool := if rO m n d = true ∨ n = 0 then false else s
def rN (m n d : Nat) : Nat := if rO m n d = true ∨ n = 0 then 0 else n
def rD (m n d : Nat) : Nat := if rO m n d = true ∨ n = 0 then 0 else denN d
/-- A call gives a ratio in new memory, as far as a bench that wasn't over lets it be. -/
def GivesR (b m : Nat) (s : Bool) (n d : Nat) (w : World) (e : Ending) (w' : World) : Prop :=
  ∃ a1 c1 a2 c2, e = .returned (ratV (rS m s n d) (.slice a1 (L (rN m n d)).length c1) (.slice a2 (L (rD m n d)).length c2)) ∧ NumAt w' a1 c1 (rN m n d) ∧ NumAt w' a2 c2 (rD m n d) ∧ Bench w' b m (rO m n d) ∧ w.grownBy w' (some b)
theorem GivesR.none {b m n d : Nat} {s : Bool} {w w' : World} (h : rO m n d = true ∨ n = 0) (hb : Bench w' b m (rO m n d)) (hg : w.grownBy w' (some b)) :
    GivesR b m s n d w (.returned (ratV false (.slice none 0 0) (.slice none 0 0))) w' := by
  have e1 : rS m s n d = false := by unfold rS; rw [if_pos h]
  have e2 : rN m n d = 0 := by unfold rN; rw [if_pos h]
  have e3 : rD m n d = 0 := by unfold rD; rw [if_pos h]
  refine ⟨Option.none, 0, Option.none, 0, ?_, ?_, ?_, hb, hg⟩
  · rw [e1, e2, e3]; rfl
  · rw [e2]; exact NumAt.zero _
  · rw [e3]; exact NumAt.zero _
theorem GivesR.some' {b m n d : Nat} {s : Bool} {w w' : World} {a1 a2 : Option Addr} {c1 c2 : Nat} (ho : rO m n d = false) (h0 : n ≠ 0) (h1 : NumAt w' a1 c1 n) (h2 : NumAt w' a2 c2 (denN d)) (hb : Bench w' b m false) (hg : w.grownBy w' (some b)) :
    GivesR b m s n d w (.returned (ratV s (.slice a1 (L n).length c1) (.slice a2 (L (denN d)).length c2))) w' := by
  have hc : ¬ (rO m n d = true ∨ n = 0) := by rw [ho]; simp [h0]
  have e1 : rS m s n d = s := by unfold rS; rw [if_neg hc]
  have e2 : rN m n d = n := by unfold rN; rw [if_neg hc]
  have e3 : rD m n d = denN d := by unfold rD; rw [if_neg hc]
  exact ⟨a1, c1, a2, c2, by rw [e1, e2, e3], by rw [e2]; exact h1, by rw [e3]; exact h2, by rw [ho]; exact hb, hg⟩

theorem NumE.bench {w w' : World} {b m : Nat} {o : Bool} {a : Option Addr} {len c n : Nat} (h : NumE w a len c n) (hb : Bench w b m o) (hg : w.grownBy w' (some b)) : NumE w' a len c n := by
  obtain ⟨xs, h1, h2, h3⟩ := h.ex
  exact ⟨xs, h1, h2, h3.bench hb hg⟩
theorem NumAt.bench {w w' : World} {b m : Nat} {o : Bool} {a : Option Addr} {c n : Nat} (h : NumAt w a c n) (hb : Bench w b m o) (hg : w.grownBy w' (some b)) : NumAt w' a c n := ⟨h.1.grown hg (hb.apart h.1), h.2⟩

/-- A ratio's three cells, written. -/
def set3 (W : World) (r : Nat) (s : Bool) (v1 v2 : Value) : World := ((W.setCell ⟨r, 0, none⟩ (.bool s)).setCell ⟨r, 1, none⟩ v1).setCell ⟨r, 2, none⟩ v2
/-- Block r holds a ratio. -/
def RatBlock (W : World) (r : Nat) : Prop := ∃ s : Bool, ∃ x1 x2 x3 y1 y2 y3, W.heap[r]? = some (.cells #[.bool s, .slice x1 x2 x3, .slice y1 y2 y3] 36 (0, 0))
theorem RatBlock.apart {W : World} {r : Nat} (h : RatBlock W r) {a : Option Addr} {xs : List Nat} (hr : Reads W a (xs.map u32v)) : xs.map u32v = [] ∨ ∀ g off, a = some ⟨g, off, none⟩ → some g ≠ some r := by
  obtain ⟨s, x1, x2, x3, y1, y2, y3, hh⟩ := h
  rcases hr with hr | ⟨g, off, rfl, hr⟩
  · exact .inl hr
  · by_cases e : xs = []
    · exact .inl (by simp [e])
    · refine .inr fun g' off' hg hb => ?_
      simp at hg hb
      obtain ⟨rfl, rfl⟩ := hg
      subst hb
      have := hr 0 _ (map_getElem? (by cases xs; exact absurd rfl e; simp))
      simp only [World.cell?, hh] at this
      rcases off with _ | _ | _ | off <;> simp [u32v] at this
theorem set3_grown (W : World) (r : Nat) (s : Bool) (v1 v2 : Value) : W.grownBy (set3 W r s v1 v2) (some r) := grownBy_set (grownBy_set (grownBy_set (grown_refl W _)))
theorem NumAt.set3 {W : World} {r : Nat} {a : Option Addr} {c n : Nat} (h : NumAt W a c n) (hb : RatBlock W r) (s : Bool) (v1 v2 : Value) : NumAt (Go.Proofs.YtodedlnpokagfaaDoor.set3 W r s v1 v2) a c n := ⟨h.1.grown (set3_grown W r s v1 v2) (hb.apart h.1), h.2⟩
theorem Bench.set3 {W : World} {b m r : Nat} {o : Bool} (h : Bench W b m o) (hne : b ≠ r) (s : Bool) (v1 v2 : Value) : Bench (Go.Proofs.YtodedlnpokagfaaDoor.set3 W r s v1 v2) b m o := h.of_block ((set3_grown W r s v1 v2).block b h.lt (by simpa using hne))
theorem grown_set3 {w W : World} {b r : Nat} (h : w.grownBy W (some b)) (hr : w.heap.size ≤ r) (s : Bool) (v1 v2 : Value) : w.grownBy (Go.Proofs.YtodedlnpokagfaaDoor.set3 W r s v1 v2) (some b) := by
  have hg := set3_grown W r s v1 v2
  exact ⟨hg.os.trans h.os, hg.tape.trans h.tape, hg.output.trans h.output, Nat.le_trans h.size hg.size, fun k hk hne => (hg.block k (Nat.lt_of_lt_of_le hk h.size) (by simp; omega)).trans (h.block k hk hne)⟩

end Go.Proofs.YtodedlnpokagfaaDoor


/-
  ratio.Make.
-/
set_option linter.unusedVariables false
set_option linter.unusedSimpArgs false
namespace Go.Proofs.YtodedlnpokagfaaDoor
open Go.RowKit Rep

/-- What num through den is in its lowest terms. -/
def mkN (n d : Nat) : Nat := if d = 0 then 0 else n / Nat.gcd n d
def mkD (n d : Nat) : Nat := if d = 0 then 1 else d / Nat.gcd n d

/-- A result's block, as it lies ahead of being written. -/
def Blank (W : World) (r : Nat) : Prop := W.heap[r]? = some (.cells #[.bool false, .slice none 0 0, .slice none 0 0] 36 (0, 0))
theorem Blank.kept {W W' : World} {r : Nat} (h : Blank W r) (hb : Below W.heap.size W W') : Blank W' r := (hb.block r (Array.getElem?_eq_some_iff.1 h).1).trans h
theorem Blank.grown {W W' : World} {r b : Nat} (h : Blank W r) (hg : W.grownBy W' (some b)) (hne : r ≠ b) : Blank W' r := (hg.block r (Array.getElem?_eq_some_iff.1 h).1 (by simpa using hne)).trans h
theorem Blank.rat {W : World} {r : Nat} (h : Blank W r) : RatBlock W r := ⟨_, _, _, _, _, _, _, h⟩
theorem Blank.cells {W : World} {r : Nat} (h : Blank W r) : W.cell? ⟨r, 0, none⟩ = some (.bool false) ∧ W.cell? ⟨r, 1, none⟩ = some (.slice none 0 0) ∧ W.cell? ⟨r, 2, none⟩ = some (.slice none 0 0) ∧ W.frozen? ⟨r, 0, none⟩ = false ∧ W.frozen? ⟨r, 1, none⟩ = false ∧ W.frozen? ⟨r, 2, none⟩ = false := by
  unfold Blank at h
  refine ⟨?_, ?_, ?_, ?_, ?_, ?_⟩
  · simp [World.cell?, h]
  · simp [World.cell?, h]
  · simp [World.cell?, h]
  · simp [World.frozen?, h]
  · simp [World.frozen?, h]
  · simp [World.frozen?, h]

/-- A result is handed on through a block of one's own. -/
theorem GivesR.through {b m n d r : Nat} {s : Bool} {w W W' : World} {e : Ending} (h : GivesR b m s n d W e W') (hW : w.grownBy W (some b)) (hr : w.heap.size ≤ r) (hrb : b ≠ r) (hbl : Blank W r) (hrl : r < W.heap.size) :
    ∃ (t : Bool) (x1 : Option Addr) (x2 x3 : Nat) (y1 : Option Addr) (y2 y3 : Nat), e = .returned (ratV t (.slice x1 x2 x3) (.slice y1 y2 y3)) ∧ Blank W' r ∧ GivesR b m s n d w (.returned (ratV t (.slice x1 x2 x3) (.slice y1 y2 y3))) (set3 W' r t (.slice x1 x2 x3) (.slice y1 y2 y3)) := by
  obtain ⟨a1, c1, a2, c2, rfl, h1, h2, h3, h4⟩ := h
  have hb' := hbl.grown h4 (Ne.symm hrb)
  exact ⟨_, _, _, _, _, _, _, rfl, hb', a1, c1, a2, c2, rfl, h1.set3 hb'.rat _ _ _, h2.set3 hb'.rat _ _ _, h3.set3 hrb _ _ _, grown_set3 (grownBy_trans_new hW h4) hr _ _ _⟩

end Go.Proofs.YtodedlnpokagfaaDoor


/-
  The document's ratios: Same, Int of 0, Low.
-/
set_option linter.unusedVariables false
set_option linter.unusedSimpArgs false
namespace Go.Proofs.YtodedlnpokagfaaDoor
open Go.RowKit Rep

/-- A ratio of digits: a sign, two numbers, in new memory. -/
def GivesDR (s : Bool) (n d : Nat) (w : World) (e : Ending) (w' : World) : Prop :=
  ∃ a1 c1 a2 c2, e = .returned (ratV s (.slice a1 (D n).length c1) (.slice a2 (D d).length c2)) ∧ DAt w' a1 c1 n ∧ DAt w' a2 c2 d ∧ Below w.heap.size w w'

theorem Below.drewN' {B : Nat} {w W : World} (h : Below B w W) (n : Nat) : Below B w (W.drewN n) := ⟨h.os, h.tape, h.output, h.size, h.block⟩
theorem D_one : D 1 = [1] := (eq_rep (b := 10) (by omega) (by simp [Dig]) (by simp [Top]) (by simp [val])).symm

/-- A block of a ratio's cells, of whatever type. -/
theorem cells3 {W : World} {r : Nat} {v0 v1 v2 : Value} {t : TypeId} (h : W.heap[r]? = some (.cells #[v0, v1, v2] t (0, 0))) :
    W.cell? ⟨r, 0, none⟩ = some v0 ∧ W.cell? ⟨r, 1, none⟩ = some v1 ∧ W.cell? ⟨r, 2, none⟩ = some v2 ∧ W.frozen? ⟨r, 0, none⟩ = false ∧ W.frozen? ⟨r, 1, none⟩ = false ∧ W.frozen? ⟨r, 2, none⟩ = false := by
  refine ⟨?_, ?_, ?_, ?_, ?_, ?_⟩
  · simp [World.cell?, h]
  · simp [World.cell?, h]
  · simp [World.cell?, h]
  · simp [World.frozen?, h]
  · simp [World.frozen?, h]
  · simp [World.frozen?, h]

set_option maxRecDepth 100000 in
set_option maxHeartbeats 1000000 in
theorem SameR_any (s1 s2 : Bool) (a1 b1 a2 b2 : Option Addr) (c1 e1 c2 e2 : Nat) (xs1 ds1 xs2 ds2 : List Nat) (w : World) (h1 : Reads w a1 (xs1.map u32v)) (k1 : Reads w b1 (ds1.map u32v)) (h2 : Reads w a2 (xs2.map u32v)) (k2 : Reads w b2 (ds2.map u32v)) (l1 : xs1.length ≤ 1000000) (m1 : ds1.length ≤ 1000000) :
    Calls Tryd.prog 36 #[ratV s1 (.slice a1 xs1.length c1) (.slice b1 ds1.length e1), ratV s2 (.slice a2 xs2.length c2) (.slice b2 ds2.length e2)] w (GivesB (decide (s1 = s2 ∧ xs1 = xs2 ∧ ds1 = ds2)) w) := by
  have HS : Hid (∀ W, Below w.heap.size w W → Calls Tryd.prog 44 #[.slice a1 xs1.length c1, .slice a2 xs2.length c2] W (Draws (.bool (decide (xs1 = xs2))) W)) := Lib.hid fun W h => Same_any a1 a2 c1 c2 xs1 xs2 W (h1.kept h) (h2.kept h) (by omega)
  have HT : Hid (∀ W, Below w.heap.size w W → Calls Tryd.prog 44 #[.slice b1 ds1.length e1, .slice b2 ds2.length e2] W (Draws (.bool (decide (ds1 = ds2))) W)) := Lib.hid fun W h => Same_any b1 b2 e1 e2 ds1 ds2 W (k1.kept h) (k2.kept h) (by omega)
  clear h1 k1 h2 k2
  unfold ratV
  by_cases hs : s1 = s2
  · have hb : (s1 == s2) = true := by rw [hs]; simp
    have HB : Hid (∀ nd nd', Below w.heap.size w ((((w.alloc (.cells #[.bool s1, .slice a1 xs1.length c1, .slice b1 ds1.length e1] 36)).alloc (.cells #[.bool s2, .slice a2 xs2.length c2, .slice b2 ds2.length e2] 36)).drewN nd).drewN nd')) := Lib.hid fun nd nd' => Below.drewN' (Below.drewN' (((Below.refl w.heap.size w).alloc (Nat.le_refl _) _).alloc (by simp) _) nd) nd'
    have hs2 := Lib.hid hs
    clear hs
    by_cases hx : xs1 = xs2
    · rw [decide_eq_true hx] at HS
      have HV : Hid (decide (s1 = s2 ∧ xs1 = xs2 ∧ ds1 = ds2) = decide (ds1 = ds2)) := Lib.hid (by simp [hs2.out, hx])
      rw [HV.out]
      have HL := Lib.hid hx
      clear hx
      generalize decide (ds1 = ds2) = v at *
      go_enter Tryd.func36, Tryd.ntmps36
      go_wp2_with fail
      refine (HS.out _ (HB.out 0 0)).mono ?_
      rintro e w2 ⟨rfl, nd, rfl⟩
      go_wp2_with fail
      refine (HT.out _ (HB.out nd 0)).mono ?_
      rintro e w3 ⟨rfl, nd', rfl⟩
      have HBB := Lib.hid (HB.out nd nd')
      rw [drewN_add] at HBB
      clear HB
      go_wp2_with fail
      go_ret
      exact ⟨rfl, HBB.out⟩
    · rw [decide_eq_false hx] at HS
      have HV : Hid (decide (s1 = s2 ∧ xs1 = xs2 ∧ ds1 = ds2) = false) := Lib.hid (by simp [hx])
      rw [HV.out]
      clear hx HT HV
      go_enter Tryd.func36, Tryd.ntmps36
      go_wp2_with fail
      refine (HS.out _ (HB.out 0 0)).mono ?_
      rintro e w2 ⟨rfl, nd, rfl⟩
      have HBB := Lib.hid (HB.out nd 0)
      clear HB
      go_wp2_with fail
      go_ret
      exact ⟨rfl, HBB.out⟩
  · have hb : (s1 == s2) = false := by simpa using hs
    have HV : Hid (decide (s1 = s2 ∧ xs1 = xs2 ∧ ds1 = ds2) = false) := Lib.hid (by simp [hs])
    rw [HV.out]
    clear hs HS HT HV
    go_enter Tryd.func36, Tryd.ntmps36
    go_wp2_with fail
    go_ret
    exact ⟨rfl, ((Below.refl w.heap.size w).alloc (Nat.le_refl _) _).alloc (by simp) _⟩

theorem int0_world (w : World) (o1 o4 : Obj) : DAt ((((w.alloc o1).alloc (.cells #[] 3)).alloc (.cells #[.int .i64 1] 3)).alloc o4) (some ⟨w.heap.size + 1 + 1, 0, none⟩) 1 1 ∧
    Below w.heap.size w ((((w.alloc o1).alloc (.cells #[] 3)).alloc (.cells #[.int .i64 1] 3)).alloc o4) := by
  refine ⟨⟨?_, ?_, by simp [maxLen]⟩, ((((Below.refl w.heap.size w).alloc (Nat.le_refl _) _).alloc (by simp) _).alloc (by simp; omega) _).alloc (by simp; omega) _⟩
  · rw [D_one]
    have h := (Row.new (E := 3) ((w.alloc o1).alloc (.cells #[] 3)) #[.int .i64 1]).alloc o4
    simpa [i64v] using h.reads0
  · rw [D_one]; simp

set_option maxRecDepth 100000 in
set_option maxHeartbeats 1000000 in
theorem Int0_any (w : World) : Calls Tryd.prog 62 #[.int .i64 0] w (GivesDR false 0 1 w) := by
  go_enter Tryd.func62, Tryd.ntmps62
  go_wp2_with fail
  go_loop [0] (fun v => v = .int .i64 0) (fun _ => 0)
  case atStart => rfl
  case round =>
    subst hrel
    go_wp2_with fail
    refine bodyPost_ret (v := ratV false (.slice (some ⟨w.heap.size + 1, 0, none⟩) 0 0) (.slice (some ⟨w.heap.size + 1 + 1, 0, none⟩) 1 1)) (by simp [results, Tryd.results62, go_sem, ratV]) rfl ?_
    obtain ⟨h1, h2⟩ := int0_world w (.cells #[.bool false, .slice (some ⟨w.heap.size + 1, 0, none⟩) 0 0, .slice (some ⟨w.heap.size + 1 + 1, 0, none⟩) 1 1] 88) (.cells #[.bool false, .slice (some ⟨w.heap.size + 1, 0, none⟩) 0 0, .slice (some ⟨w.heap.size + 1 + 1, 0, none⟩) 1 1] 88)
    exact ⟨_, 0, _, 1, by rw [D_one]; rfl, DAt.zero _ _ _ (by simp [maxLen]), h1, h2⟩

/-- Three cells, written. -/
theorem set3_below {B : Nat} {w W : World} {r : Nat} {s : Bool} {v1 v2 : Value} (h : Below B w W) (hr : B ≤ r) : Below B w (set3 W r s v1 v2) := ((h.setCell (p := ⟨r, 0, none⟩) hr _).setCell (p := ⟨r, 1, none⟩) hr _).setCell (p := ⟨r, 2, none⟩) hr _
/-- Digits aren't where three cells of a ratio lie. -/
theorem DAt.set3 {W : World} {r : Nat} {a : Option Addr} {c n : Nat} {t : TypeId} {s0 : Bool} {x1 y1 : Option Addr} {x2 x3 y2 y3 : Nat} (h : DAt W a c n) (hb : W.heap[r]? = some (.cells #[.bool s0, .slice x1 x2 x3, .slice y1 y2 y3] t (0, 0))) (s : Bool) (v1 v2 : Value) : DAt (Go.Proofs.YtodedlnpokagfaaDoor.set3 W r s v1 v2) a c n := by
  refine ⟨h.1.grown (set3_grown W r s v1 v2) ?_, h.2⟩
  rcases h.1 with hr | ⟨g, off, rfl, hr⟩
  · exact .inl hr
  · by_cases e : D n = []
    · exact .inl (by simp [e])
    · refine .inr fun g' off' hg hbq => ?_
      simp at hg hbq
      obtain ⟨rfl, rfl⟩ := hg
      subst hbq
      have := hr 0 _ (map_getElem? (xs := D n) (f := i64v) (List.length_pos_iff.2 e))
      simp only [World.cell?, hb] at this
      rcases off with _ | _ | _ | off <;> simp [i64v] at this

set_option maxRecDepth 100000 in
set_option maxHeartbeats 2000000 in
theorem Low_any (s : Bool) (a1 a2 : Option Addr) (c1 c2 n d : Nat) (w : World) (h1 : DAt w a1 c1 n) (h2 : DAt w a2 c2 d) (hd : 0 < d) (l1 : (D n).length ≤ 1000000) (l2 : (D d).length ≤ 1000000) :
    Calls Tryd.prog 54 #[ratV s (.slice a1 (D n).length c1) (.slice a2 (D d).length c2)] w (GivesDR (if n = 0 then false else s) (n / Nat.gcd n d) (d / Nat.gcd n d) w) := by
  obtain ⟨W0, hW0⟩ : ∃ W0, W0 = (w.alloc (.cells #[.bool s, .slice a1 (D n).length c1, .slice a2 (D d).length c2] 88)).alloc (.cells #[.bool false, .slice none 0 0, .slice none 0 0] 88) := ⟨_, rfl⟩
  have hB0 : Below w.heap.size w W0 := by rw [hW0]; exact ((Below.refl _ _).alloc (Nat.le_refl _) _).alloc (by simp) _
  have hx0 : W0.heap[w.heap.size]? = some (.cells #[.bool s, .slice a1 (D n).length c1, .slice a2 (D d).length c2] 88 (0, 0)) := by rw [hW0, Below.heap_alloc _ _ _ (by simp)]; exact heap_alloc_new w _
  have hr0 : W0.heap[w.heap.size + 1]? = some (.cells #[.bool false, .slice none 0 0, .slice none 0 0] 88 (0, 0)) := by
    rw [hW0]; simpa using heap_alloc_new (w.alloc (.cells #[.bool s, .slice a1 (D n).length c1, .slice a2 (D d).length c2] 88)) (.cells #[.bool false, .slice none 0 0, .slice none 0 0] 88)
  have hs0 : w.heap.size + 1 < W0.heap.size := by rw [hW0]; simp
  have H0 := Lib.hid (And.intro hB0 (And.intro hs0 (And.intro (h1.kept hB0) (h2.kept hB0))))
  have HX := Lib.hid (And.intro hx0 hr0)
  have HW0 := Lib.hid hW0
  have HF : Hid (∀ W, Below W0.heap.size W0 W → W.heap[w.heap.size]? = some (.cells #[.bool s, .slice a1 (D n).length c1, .slice a2 (D d).length c2] 88 (0, 0)) ∧ W.heap[w.heap.size + 1]? = some (.cells #[.bool false, .slice none 0 0, .slice none 0 0] 88 (0, 0)) ∧ Below w.heap.size w W) := Lib.hid fun W h =>
    ⟨(h.block _ (by have := H0.out.2.1; omega)).trans HX.out.1, (h.block _ H0.out.2.1).trans HX.out.2, H0.out.1.trans (h.mono H0.out.1.size)⟩
  clear h1 h2 hB0 hx0 hr0 hs0 hW0
  rcases Nat.eq_zero_or_pos n with h0 | h0
  · subst h0
    have e1 : 0 / Nat.gcd 0 d = 0 := Nat.zero_div _
    have e2 : d / Nat.gcd 0 d = 1 := by rw [Nat.gcd_zero_left]; exact Nat.div_self hd
    rw [if_pos rfl, e1, e2]
    clear e1 e2 hd
    have hz : (((D 0).length : Int) == 0) = true := rfl
    have HI := Lib.hid (Int0_any W0)
    unfold ratV
    go_enter Tryd.func54, Tryd.ntmps54
    go_wp2_with fail
    rw [← HW0.out]
    refine HI.out.mono ?_
    rintro e w2 ⟨a3, c3, a4, c4, rfl, d3, d4, hb⟩
    obtain ⟨f1, f2, f3⟩ := HF.out w2 hb
    obtain ⟨k0, k1, k2, j0, j1, j2⟩ := cells3 f2
    have HE : Hid (GivesDR false 0 1 w (.returned (ratV false (.slice a3 (D 0).length c3) (.slice a4 (D 1).length c4))) (set3 w2 (w.heap.size + 1) false (.slice a3 (D 0).length c3) (.slice a4 (D 1).length c4))) :=
      Lib.hid ⟨a3, c3, a4, c4, rfl, d3.set3 f2 _ _ _, d4.set3 f2 _ _ _, set3_below f3 (by omega)⟩
    clear d3 d4 hb f1 f2 f3 HF HI H0 HX
    unfold ratV
    go_wp2_with fail
    exact bodyPost_ret (v := ratV false (.slice a3 (D 0).length c3) (.slice a4 (D 1).length c4)) (by simp [results, Tryd.results54, go_sem, ratV, k0, k1, k2]) rfl HE.out
  · have hz : (((D n).length : Int) == 0) = false := cast_beq_no (by rw [Ne, D_len_zero]; omega)
    rw [if_neg (by omega)]
    have hgl : (D (Nat.gcd n d)).length ≤ 1000000 := Nat.le_trans (D_mono (Nat.le_of_dvd h0 (Nat.gcd_dvd_left n d))) l1
    have HG := Lib.hid (GcdD_any a1 a2 c1 c2 n d W0 H0.out.2.2.1 H0.out.2.2.2 (by omega) (by omega))
    generalize Nat.gcd n d = G at *
    obtain ⟨q1, hq1⟩ : ∃ q, n / G = q := ⟨_, rfl⟩
    obtain ⟨q2, hq2⟩ : ∃ q, d / G = q := ⟨_, rfl⟩
    rw [hq1, hq2]
    have HQ := Lib.hid (And.intro hq1 hq2)
    clear h0 hd hq1 hq2
    obtain ⟨k0, k1, k2, j0, j1, j2⟩ := cells3 HX.out.1
    unfold ratV
    go_enter Tryd.func54, Tryd.ntmps54
    go_wp2_with fail
    rw [← HW0.out]
    refine HG.out.mono ?_
    rintro e w2 ⟨ag, cg, rfl, dg, hb⟩
    have HB2 := Lib.hid hb
    have HDG := Lib.hid dg
    obtain ⟨f1, f2, f3⟩ := HF.out w2 hb
    have HD1 := Lib.hid (DivD_any a1 ag c1 cg n G w2 (H0.out.2.2.1.kept hb) dg (by omega) (by omega))
    rw [HQ.out.1] at HD1
    obtain ⟨m0, m1, m2, _, _, _⟩ := cells3 f1
    clear k0 k1 k2 j0 j1 j2 f1 f2 f3 dg hb HG
    go_wp2_with fail
    refine HD1.out.mono ?_
    rintro e w3 ⟨a5, c5, a6, c6, rfl, d5, d6, hb3⟩
    have HB3 := Lib.hid (HB2.out.trans (hb3.mono HB2.out.size))
    obtain ⟨f1, f2, f3⟩ := HF.out w3 HB3.out
    have HD2 := Lib.hid (DivD_any a2 ag c2 cg d G w3 (H0.out.2.2.2.kept HB3.out) (HDG.out.kept hb3) (by omega) (by omega))
    rw [HQ.out.2] at HD2
    have HD5 := Lib.hid d5
    obtain ⟨n0, n1, n2, _, _, _⟩ := cells3 f1
    clear m0 m1 m2 f1 f2 f3 d5 d6 hb3 HD1 HB2 HDG
    go_wp2_with fail
    refine HD2.out.mono ?_
    rintro e w4 ⟨a7, c7, a8, c8, rfl, d7, d8, hb4⟩
    have HB4 := Lib.hid (HB3.out.trans (hb4.mono HB3.out.size))
    obtain ⟨f1, f2, f3⟩ := HF.out w4 HB4.out
    obtain ⟨k0, k1, k2, _, _, _⟩ := cells3 f1
    obtain ⟨m0, m1, m2, j0, j1, j2⟩ := cells3 f2
    have HE : Hid (GivesDR s q1 q2 w (.returned (ratV s (.slice a5 (D q1).length c5) (.slice a7 (D q2).length c7))) (set3 w4 (w.heap.size + 1) s (.slice a5 (D q1).length c5) (.slice a7 (D q2).length c7))) :=
      Lib.hid ⟨a5, c5, a7, c7, rfl, (HD5.out.kept hb4).set3 f2 _ _ _, d7.set3 f2 _ _ _, set3_below f3 (by omega)⟩
    clear n0 n1 n2 d7 d8 hb4 f1 f2 f3 HF H0 HX HB3 HB4 HD2 HD5
    go_wp2_with fail
    exact bodyPost_ret (v := ratV s (.slice a5 (D q1).length c5) (.slice a7 (D q2).length c7)) (by simp [results, Tryd.results54, go_sem, ratV, m0, m1, m2]) rfl HE.out
end Go.Proofs.YtodedlnpokagfaaDoor


/-
  The document's Form.
-/
set_option linter.unusedVariables false
set_option linter.unusedSimpArgs false
namespace Go.Proofs.YtodedlnpokagfaaDoor
open Go.RowKit Rep

/-- It ends as it should, with one of these frames. -/
def OnlyEx {ι : Type} (A : ι → Act) (R : ι → World → Prop) : Exit → Act → World → Prop
  | .normal, a, w => ∃ i, a = A i ∧ R i w
  | _, _, _ => False
theorem OnlyEx.out {ι : Type} {A : ι → Act} {R : ι → World → Prop} {e : Exit} {a : Act} {w : World} (h : OnlyEx A R e a w) : e = .normal ∧ ∃ i, a = A i ∧ R i w := by
  cases e <;> first | exact ⟨rfl, h⟩ | exact h.elim
theorem wp_region_ex {P : Program} {id : Nat} {ops : Array Oper} {Q : Exit → Act → World → Prop} {a : Act} {w : World} {ι : Type} (l : ι → List (Nat × Value)) (R : ι → World → Prop)
    (h : (Code.region id ops true).wp P (OnlyEx (fun i => puts a (l i)) R) a w) (hq : ∀ i w', R i w' → Q .normal (puts a (l i)) w') : (Code.region id ops true).wp P Q a w :=
  Code.wp_mono (fun e a' w' ho => by
    obtain ⟨rfl, i, rfl, hr⟩ := ho.out
    exact hq i w' hr) h

/-- A new block of three cells, and limbs beside it. -/
def FormAt (W : World) (s : Bool) (N : Nat) (i : Nat × Option Addr × Nat) (W' : World) : Prop :=
  W'.heap[i.1]? = some (.cells #[.bool s, .slice i.2.1 (L N).length i.2.2, .slice none 0 0] 36 (0, 0)) ∧ NumAt W' i.2.1 i.2.2 N ∧ Below W.heap.size W W' ∧ W.heap.size ≤ i.1

/-- The region's call, ahead of the alloc and behind it. -/
theorem form_calls {W : World} {a3 : Option Addr} {c3 N : Nat} {s : Bool} (h : DAt W a3 c3 N) (hl : (D N).length ≤ 1000000) :
    Hid (Calls Tryd.prog 55 #[.slice a3 (D N).length c3] W.drew fun e w3 => ∃ a c, e = .returned (.slice a (L N).length c) ∧ Hid (∀ r o, r < W.heap.size → w3.cell? ⟨r, o, none⟩ = W.cell? ⟨r, o, none⟩) ∧ Hid (FormAt W s N (w3.heap.size, a, c) (w3.alloc (.cells #[.bool s, .slice a (L N).length c, .slice none 0 0] 36)))) ∧
      Hid (Calls Tryd.prog 55 #[.slice a3 (D N).length c3] (W.alloc (.cells #[.bool false, .slice none 0 0, .slice none 0 0] 36)).drew fun e w3 => ∃ a c, e = .returned (.slice a (L N).length c) ∧
        (w3.cell? ⟨W.heap.size, 0, none⟩ = some (.bool false) ∧ w3.cell? ⟨W.heap.size, 1, none⟩ = some (.slice none 0 0) ∧ w3.cell? ⟨W.heap.size, 2, none⟩ = some (.slice none 0 0) ∧ w3.frozen? ⟨W.heap.size, 0, none⟩ = false ∧ w3.frozen? ⟨W.heap.size, 1, none⟩ = false ∧ w3.frozen? ⟨W.heap.size, 2, none⟩ = false) ∧ Hid (∀ r o, r < W.heap.size → w3.cell? ⟨r, o, none⟩ = W.cell? ⟨r, o, none⟩) ∧
        Hid (FormAt W s N (W.heap.size, a, c) (set3 w3 W.heap.size s (.slice a (L N).length c) (.slice none 0 0)))) := by
  have hd1 : Below W.heap.size W W.drew := ⟨rfl, rfl, rfl, Nat.le_refl _, fun _ _ => rfl⟩
  refine ⟨Lib.hid ?_, Lib.hid ?_⟩
  · have := Limbs_any a3 c3 (D N) W.drew h.1 (D_dig N) (by omega)
    rw [val_D] at this
    refine this.mono ?_
    rintro e w3 ⟨a, c, rfl, ho, hb⟩
    exact ⟨a, c, rfl, Lib.hid (fun r o hr => (hd1.trans hb).cell (p := ⟨r, o, none⟩) hr), Lib.hid ⟨heap_alloc_new w3 _, ho.num.kept ((Below.refl _ _).alloc (Nat.le_refl _) _), (hd1.trans hb).alloc hb.size _, hb.size⟩⟩
  · have hd2 : Below W.heap.size W (W.alloc (.cells #[.bool false, .slice none 0 0, .slice none 0 0] 36)).drew := Below.drewN' ((Below.refl W.heap.size W).alloc (Nat.le_refl _) _) 1
    have := Limbs_any a3 c3 (D N) (W.alloc (.cells #[.bool false, .slice none 0 0, .slice none 0 0] 36)).drew (h.1.kept hd2) (D_dig N) (by omega)
    rw [val_D] at this
    refine this.mono ?_
    rintro e w3 ⟨a, c, rfl, ho, hb⟩
    have hbl : Blank w3 W.heap.size := (hb.block _ (by simp [World.drew])).trans (heap_alloc_new W _)
    refine ⟨a, c, rfl, hbl.cells, Lib.hid (fun r o hr => (hd2.trans (hb.mono (by simp [World.drew]))).cell (p := ⟨r, o, none⟩) hr), Lib.hid ⟨?_, ho.num.set3 hbl.rat _ _ _, set3_below (hd2.trans (hb.mono (by simp [World.drew]))) (Nat.le_refl _), Nat.le_refl _⟩⟩
    unfold Blank at hbl
    simp [Go.Proofs.YtodedlnpokagfaaDoor.set3, World.setCell, Array.getElem?_modify, hbl]

/-- A ratio in its one form's way of telling: limbs; nothing for a denominator of 1. -/
def GivesAR (s : Bool) (n d : Nat) (w : World) (e : Ending) (w' : World) : Prop :=
  ∃ a1 c1 a2 c2, e = .returned (ratV s (.slice a1 (L n).length c1) (.slice a2 (L (denN d)).length c2)) ∧ NumAt w' a1 c1 n ∧ NumAt w' a2 c2 (denN d) ∧ Below w.heap.size w w'

theorem D_len1 {M : Nat} (h : (D M).length = 1) : M < 10 ∧ D M = [M] := by
  have h1 : M < 10 := by have := (D_len M 1).1 (Nat.le_of_eq h); omega
  refine ⟨h1, ?_⟩
  have h0 : 0 < M := Nat.pos_of_ne_zero fun e => by rw [e] at h; simp [D_zero] at h
  rw [D_cons h0, Nat.mod_eq_of_lt h1, Nat.div_eq_of_lt h1, D_zero]

/-- All that is there behind the region. -/
structure FormSt (w : World) (s : Bool) (N M : Nat) (a4 : Option Addr) (c4 X : Nat) (a5 : Option Addr) (c5 : Nat) (a3 : Option Addr) (l3 c3 : Nat) (W : World) : Prop where
  x : W.heap[X]? = some (.cells #[.bool s, .slice a5 (L N).length c5, .slice none 0 0] 36 (0, 0))
  n : NumAt W a5 c5 N
  d : DAt W a4 c4 M
  b : W.heap[w.heap.size]? = some (.cells #[.bool s, .slice a3 l3 c3, .slice a4 (D M).length c4] 88 (0, 0))
  r : Blank W (w.heap.size + 1)
  below : Below w.heap.size w W
  ge : w.heap.size + 1 < X
theorem FormSt.end1 {w W : World} {s : Bool} {N a4 c4 X a5 c5 a3 l3 c3} (h : FormSt w s N 1 a4 c4 X a5 c5 a3 l3 c3 W) : GivesAR s N 1 w (.returned (ratV s (.slice a5 (L N).length c5) (.slice none 0 0))) (set3 W (w.heap.size + 1) s (.slice a5 (L N).length c5) (.slice none 0 0)) :=
  ⟨a5, c5, none, 0, rfl, h.n.set3 h.r.rat _ _ _, NumAt.zero _, set3_below h.below (by omega)⟩
theorem FormSt.end2 {w W W5 : World} {s : Bool} {N M : Nat} {a4 c4 X a5 c5 a3 l3 c3} (h : FormSt w s N M a4 c4 X a5 c5 a3 l3 c3 W) (hM : M ≠ 1) {a6 : Option Addr} {c6 : Nat} (h6 : NumAt W5 a6 c6 M) (hb : Below W.heap.size W W5) :
    GivesAR s N M w (.returned (ratV s (.slice a5 (L N).length c5) (.slice a6 (L M).length c6))) (set3 (W5.setCell ⟨X, 2, none⟩ (.slice a6 (L M).length c6)) (w.heap.size + 1) s (.slice a5 (L N).length c5) (.slice a6 (L M).length c6)) ∧
      W5.cell? ⟨X, 0, none⟩ = some (.bool s) ∧ W5.cell? ⟨X, 1, none⟩ = some (.slice a5 (L N).length c5) ∧ W5.cell? ⟨X, 2, none⟩ = some (.slice none 0 0) ∧ W5.frozen? ⟨X, 2, none⟩ = false ∧ Blank W5 (w.heap.size + 1) := by
  have hX : W5.heap[X]? = some (.cells #[.bool s, .slice a5 (L N).length c5, .slice none 0 0] 36 (0, 0)) := (hb.block _ (Array.getElem?_eq_some_iff.1 h.x).1).trans h.x
  have hrX : RatBlock W5 X := ⟨_, _, _, _, _, _, _, hX⟩
  have hR := h.r.kept hb
  obtain ⟨k0, k1, k2, j0, j1, j2⟩ := cells3 hX
  have hg : W5.grownBy (W5.setCell ⟨X, 2, none⟩ (.slice a6 (L M).length c6)) (some X) := grownBy_set (grown_refl W5 _)
  have hge := h.ge
  have hR2 : Blank (W5.setCell ⟨X, 2, none⟩ (.slice a6 (L M).length c6)) (w.heap.size + 1) := hR.grown hg (by omega)
  have n5 : NumAt (W5.setCell ⟨X, 2, none⟩ (.slice a6 (L M).length c6)) a5 c5 N := ⟨(h.n.kept hb).1.grown hg (hrX.apart (h.n.kept hb).1), h.n.2⟩
  have n6 : NumAt (W5.setCell ⟨X, 2, none⟩ (.slice a6 (L M).length c6)) a6 c6 M := ⟨h6.1.grown hg (hrX.apart h6.1), h6.2⟩
  have hdn : denN M = M := by unfold denN; rw [if_neg hM]
  refine ⟨⟨a5, c5, a6, c6, by rw [hdn], n5.set3 hR2.rat _ _ _, by rw [hdn]; exact n6.set3 hR2.rat _ _ _, set3_below ((h.below.trans (hb.mono h.below.size)).setCell (by simp; omega) _) (by omega)⟩, k0, k1, k2, j2, hR⟩

set_option maxRecDepth 100000 in
set_option maxHeartbeats 4000000 in
theorem Form_any (s : Bool) (a1 a2 : Option Addr) (c1 c2 n d : Nat) (w : World) (h1 : DAt w a1 c1 n) (h2 : DAt w a2 c2 d) (hd : 0 < d) (l1 : (D n).length ≤ 1000000) (l2 : (D d).length ≤ 1000000) :
    Calls Tryd.prog 48 #[ratV s (.slice a1 (D n).length c1) (.slice a2 (D d).length c2)] w (GivesAR (if n = 0 then false else s) (n / Nat.gcd n d) (d / Nat.gcd n d) w) := by
  have hNl : (D (n / Nat.gcd n d)).length ≤ 1000000 := Nat.le_trans (D_mono (Nat.div_le_self _ _)) l1
  have hMl : (D (d / Nat.gcd n d)).length ≤ 1000000 := Nat.le_trans (D_mono (Nat.div_le_self _ _)) l2
  have HL : Hid (∀ W, Below w.heap.size w W → Calls Tryd.prog 54 #[ratV s (.slice a1 (D n).length c1) (.slice a2 (D d).length c2)] W (GivesDR (if n = 0 then false else s) (n / Nat.gcd n d) (d / Nat.gcd n d) W)) := Lib.hid fun W h => Low_any s a1 a2 c1 c2 n d W (h1.kept h) (h2.kept h) hd l1 l2
  generalize (if n = 0 then false else s) = s' at *
  generalize n / Nat.gcd n d = N at *
  generalize d / Nat.gcd n d = M at *
  obtain ⟨W0, hW0⟩ : ∃ W0, W0 = (w.alloc (.cells #[.bool s, .slice a1 (D n).length c1, .slice a2 (D d).length c2] 88)).alloc (.cells #[.bool false, .slice none 0 0, .slice none 0 0] 36) := ⟨_, rfl⟩
  have hB0 : Below w.heap.size w W0 := by rw [hW0]; exact ((Below.refl _ _).alloc (Nat.le_refl _) _).alloc (by simp) _
  have hx0 : W0.heap[w.heap.size]? = some (.cells #[.bool s, .slice a1 (D n).length c1, .slice a2 (D d).length c2] 88 (0, 0)) := by rw [hW0, Below.heap_alloc _ _ _ (by simp)]; exact heap_alloc_new w _
  have hr0 : Blank W0 (w.heap.size + 1) := by
    unfold Blank
    rw [hW0]; simpa using heap_alloc_new (w.alloc (.cells #[.bool s, .slice a1 (D n).length c1, .slice a2 (D d).length c2] 88)) (.cells #[.bool false, .slice none 0 0, .slice none 0 0] 36)
  have hs0 : w.heap.size + 1 < W0.heap.size := by rw [hW0]; simp
  have HW0 := Lib.hid hW0
  have HL0 := Lib.hid (HL.out W0 hB0)
  have HX := Lib.hid (And.intro hB0 (And.intro hx0 (And.intro hr0 hs0)))
  clear hW0 h1 h2 HL hB0 hx0 hr0 hs0
  unfold ratV at HL0 ⊢
  go_enter Tryd.func48, Tryd.ntmps48
  go_wp2_with fail
  rw [← HW0.out]
  refine HL0.out.mono ?_
  rintro e w2 ⟨a3, c3, a4, c4, rfl, d3, d4, hb⟩
  have f1 := (hb.block _ (by have := HX.out.2.2.2; omega)).trans HX.out.2.1
  obtain ⟨k0, k1, k2, j0, j1, j2⟩ := cells3 f1
  unfold ratV
  have HD := Lib.hid (And.intro d3 (And.intro d4 (And.intro hb f1)))
  clear d3 d4 hb f1 HL0
  go_wp2_with fail
  have HW : Hid (∃ W, W = set3 w2 w.heap.size s' (.slice a3 (D N).length c3) (.slice a4 (D M).length c4)) := Lib.hid ⟨_, rfl⟩
  obtain ⟨W, hW⟩ := HW.out
  have hE : set3 w2 w.heap.size s' (.slice a3 (D N).length c3) (.slice a4 (D M).length c4) = W := hW.symm
  have d3 : DAt W a3 c3 N := by rw [hW]; exact HD.out.1.set3 HD.out.2.2.2 _ _ _
  have hW0 : W.heap[w.heap.size]? = some (.cells #[.bool s', .slice a3 (D N).length c3, .slice a4 (D M).length c4] 88 (0, 0)) := by
    rw [hW]; simp [set3, World.setCell, Array.getElem?_modify, HD.out.2.2.2]
  have HWE := Lib.hid hW
  unfold set3 at hE
  rw [hE]
  clear hE hW HW k0 k1 k2 j0 j1 j2
  obtain ⟨k0, k1, k2, j0, j1, j2⟩ := cells3 hW0
  obtain ⟨HA, HB⟩ := form_calls (s := s') d3 hNl
  have hne : w.heap.size < W.heap.size := (Array.getElem?_eq_some_iff.1 hW0).1
  have hne2 : W.heap.size ≠ w.heap.size := by omega
  have HDW : Hid (DAt W a4 c4 M ∧ W.heap[w.heap.size]? = some (.cells #[.bool s', .slice a3 (D N).length c3, .slice a4 (D M).length c4] 88 (0, 0)) ∧ Blank W (w.heap.size + 1) ∧ Below w.heap.size w W ∧ w.heap.size + 1 < W.heap.size) := Lib.hid (by
    have hb := HD.out.2.2.1
    have hB := HX.out.1.trans (hb.mono HX.out.1.size)
    have hbl := HX.out.2.2.1.kept hb
    have hg := set3_grown w2 w.heap.size s' (.slice a3 (D N).length c3) (.slice a4 (D M).length c4)
    refine ⟨by rw [HWE.out]; exact HD.out.2.1.set3 HD.out.2.2.2 _ _ _, hW0, by rw [HWE.out]; exact hbl.grown hg (by omega), by rw [HWE.out]; exact set3_below hB (Nat.le_refl _), ?_⟩
    have h1 := HX.out.2.2.2
    have h2 := hb.size
    have h3 := hg.size
    rw [HWE.out]
    omega)
  clear hW0 d3
  refine wp_region_ex (ι := Nat × Option Addr × Nat) (fun i => [(6, .pointer (some ⟨w.heap.size, 0, none⟩)), (7, .bool s'), (8, .pointer (some ⟨w.heap.size, 1, none⟩)), (9, .slice a3 (D N).length c3), (10, .slice i.2.1 (L N).length i.2.2), (11, .agg #[.bool s', .slice i.2.1 (L N).length i.2.2]),
    (12, .agg #[.bool s', .slice i.2.1 (L N).length i.2.2, .slice none 0 0]), (3, .pointer (some ⟨i.1, 0, none⟩))]) (FormAt W s' N) ?region ?rest
  case region =>
    go_region_held3 (fun w' => w'.cell? ⟨w.heap.size, 0, none⟩ = some (.bool s') ∧ w'.cell? ⟨w.heap.size, 1, none⟩ = some (.slice a3 (D N).length c3)) (go_keep)
      (first
        | (go_at_call 55; (with_reducible refine HA.out.mono ?_); rintro e w3 ⟨a5, c5, rfl, HP, HF⟩; have q0 := (HP.out _ 0 hne).trans k0; have q1 := (HP.out _ 1 hne).trans k1)
        | (go_at_call 55; (with_reducible refine HB.out.mono ?_); rintro e w3 ⟨a5, c5, rfl, ⟨m0, m1, m2, n0, n1, n2⟩, HP, HF⟩; have q0 := (HP.out _ 0 hne).trans k0; have q1 := (HP.out _ 1 hne).trans k1))
    all_goals exact ⟨(_, a5, c5), rfl, HF.out⟩
  case rest =>
    rintro ⟨X, a5, c5⟩ w5 hF
    have HS : Hid (FormSt w s' N M a4 c4 X a5 c5 a3 (D N).length c3 w5) := Lib.hid (by
      obtain ⟨f1, f2, f3, f4⟩ := hF
      exact ⟨f1, f2, HDW.out.1.kept f3, (f3.block _ hne).trans HDW.out.2.1, HDW.out.2.2.1.kept f3, HDW.out.2.2.2.1.trans (f3.mono HDW.out.2.2.2.1.size), by have := HDW.out.2.2.2.2; have h4 : W.heap.size ≤ X := f4; omega⟩)
    clear hF HA HB k0 k1 k2 j0 j1 j2 HDW hne hne2 HX HD
    have hXge := HS.out.ge
    simp only [puts, Act.put, List.setIfInBounds_toArray, List.set_cons_zero, List.set_cons_succ]
    obtain ⟨k0, k1, k2, j0, j1, j2⟩ := cells3 HS.out.b
    obtain ⟨x0, x1, x2, y0, y1, y2⟩ := cells3 HS.out.x
    by_cases hM : M = 1
    · subst hM
      have hz : ((((D 1).length : Nat) : Int) != 1) = false := by rw [D_one]; rfl
      have hl1 : 0 < (D 1).length := by rw [D_one]; simp
      obtain ⟨g, off, hga, hg, hc⟩ := HS.out.d.1.open' (by rw [List.length_map]; exact hl1)
      subst hga
      have hck := hc 0 (.int .i64 1) (by rw [D_one]; rfl)
      rw [Nat.add_zero] at hck
      obtain ⟨m0, m1, m2, n0, n1, n2⟩ := HS.out.r.cells
      have HE := Lib.hid HS.out.end1
      clear hc HS
      go_wp2_with fail
      exact bodyPost_ret (v := ratV s' (.slice a5 (L N).length c5) (.slice none 0 0)) (by simp [results, Tryd.results48, go_sem, ratV, m0, m1, m2]) rfl HE.out
    · have HLM := Lib.hid (Limbs_any a4 c4 (D M) w5 HS.out.d.1 (D_dig M) (by omega))
      rw [val_D] at HLM
      have HEE : Hid (∀ a6 c6 W5, NumAt W5 a6 c6 M → Below w5.heap.size w5 W5 → _) := Lib.hid (fun (a6 : Option Addr) (c6 : Nat) (W5 : World) (h6 : NumAt W5 a6 c6 M) (hb : Below w5.heap.size w5 W5) => HS.out.end2 hM h6 hb)
      have hgo : ((((D M).length : Nat) : Int) != 1) = true ∨ (((((D M).length : Nat) : Int) != 1) = false ∧ ∃ g off, a4 = some ⟨g, off, none⟩ ∧ 0 < (D M).length ∧ w5.cell? ⟨g, off, none⟩ = some (.int .i64 (M : Int)) ∧ ((M : Int) != 1) = true) := by
        by_cases hl : (D M).length = 1
        · obtain ⟨hm, hDM⟩ := D_len1 hl
          obtain ⟨g, off, hga, hg, hc⟩ := HS.out.d.1.open' (by rw [List.length_map]; omega)
          have hck := hc 0 (.int .i64 (M : Int)) (by rw [hDM]; rfl)
          rw [Nat.add_zero] at hck
          exact .inr ⟨by rw [hl]; rfl, g, off, hga, by omega, hck, by rw [bne_iff_ne]; omega⟩
        · exact .inl (by rw [bne_iff_ne]; omega)
      clear hM HS
      rcases hgo with hz | ⟨hz, g, off, rfl, hl0, hck, hm1⟩
      all_goals
        go_wp2_with fail
        refine HLM.out.mono ?_
        rintro e w6 ⟨a6, c6, rfl, ho, hb6⟩
        obtain ⟨hE, p0, p1, p2, q2, hbl⟩ := HEE.out a6 c6 w6 ho.num hb6
        have HE := Lib.hid hE
        obtain ⟨m0, m1, m2, n0, n1, n2⟩ := hbl.cells
        have hXne : X ≠ w.heap.size + 1 := by omega
        clear hE hbl ho hb6 HEE HLM k0 k1 k2 j0 j1 j2 x0 x1 x2 y0 y1 y2
        go_wp2_with fail
        exact bodyPost_ret (v := ratV s' (.slice a5 (L N).length c5) (.slice a6 (L M).length c6)) (by simp [results, Tryd.results48, go_sem, ratV, m0, m1, m2]) rfl HE.out
end Go.Proofs.YtodedlnpokagfaaDoor


/-
  The document's Of: a ratio as digits.
-/
set_option linter.unusedVariables false
set_option linter.unusedSimpArgs false
namespace Go.Proofs.YtodedlnpokagfaaDoor
open Go.RowKit Rep

theorem ofE {w : World} {a : Option Addr} {len c n : Nat} (h : NumE w a len c n) (hl : len ≤ 1000000) : Calls Tryd.prog 56 #[.slice a len c] w (GivesD w.heap.size n w) := by
  obtain ⟨xs, rfl, rfl, hx⟩ := h.ex
  exact OfD_any a xs c w hx.lim hx.reads (by omega)

def blankD : Obj := .cells #[.bool false, .slice none 0 0, .slice none 0 0] 88
abbrev OfIx := Nat × (Option Addr × Nat) × (Option Addr × Nat)
/-- A new block of three cells, and digits beside it. -/
def OfAt (W : World) (s : Bool) (n d : Nat) (i : OfIx) (W' : World) : Prop :=
  W'.heap[i.1]? = some (.cells #[.bool s, .slice i.2.1.1 (D n).length i.2.1.2, .slice i.2.2.1 (D d).length i.2.2.2] 88 (0, 0)) ∧ DAt W' i.2.1.1 i.2.1.2 n ∧ DAt W' i.2.2.1 i.2.2.2 d ∧ Below W.heap.size W W' ∧ W.heap.size ≤ i.1
/-- What lay there lies there. -/
def Same3 (W w3 : World) : Prop := ∀ r o, r < W.heap.size → w3.cell? ⟨r, o, none⟩ = W.cell? ⟨r, o, none⟩
theorem Same3.of {W w3 : World} (h : Below W.heap.size W w3) : Same3 W w3 := fun r o hr => h.cell (p := ⟨r, o, none⟩) hr
/-- A block of three blank cells. -/
def Blk3 (w3 : World) (X : Nat) : Prop := w3.heap[X]? = some (.cells #[.bool false, .slice none 0 0, .slice none 0 0] 88 (0, 0))

/-- The second call where the block is made already. -/
theorem of_second {W w3 : World} {s : Bool} {a1 a2 : Option Addr} {c1 l2 c2 n d X : Nat} (h2 : NumE W a2 l2 c2 d) (hl2 : l2 ≤ 1000000) (hb : Below W.heap.size W w3) (hd : DAt w3 a1 c1 n) (hX : Blk3 w3 X) (hge : W.heap.size ≤ X) :
    Calls Tryd.prog 56 #[.slice a2 l2 c2] w3 fun e w4 => ∃ b c, e = .returned (.slice b (D d).length c) ∧ (w4.cell? ⟨X, 0, none⟩ = some (.bool false) ∧ w4.cell? ⟨X, 1, none⟩ = some (.slice none 0 0) ∧ w4.cell? ⟨X, 2, none⟩ = some (.slice none 0 0) ∧ w4.frozen? ⟨X, 0, none⟩ = false ∧ w4.frozen? ⟨X, 1, none⟩ = false ∧ w4.frozen? ⟨X, 2, none⟩ = false) ∧
      Hid (Same3 W w4) ∧ Hid (OfAt W s n d (X, (a1, c1), (b, c)) (set3 w4 X s (.slice a1 (D n).length c1) (.slice b (D d).length c))) := by
  refine (ofE (h2.kept hb) hl2).mono ?_
  rintro e w4 ⟨b, c, rfl, d4, hb4, _⟩
  have hX4 : Blk3 w4 X := (hb4.block _ (Array.getElem?_eq_some_iff.1 hX).1).trans hX
  have hB : Below W.heap.size W w4 := hb.trans (hb4.mono hb.size)
  refine ⟨b, c, rfl, cells3 hX4, Lib.hid (Same3.of hB), Lib.hid ⟨?_, (hd.kept hb4).set3 hX4 _ _ _, d4.set3 hX4 _ _ _, set3_below hB hge, hge⟩⟩
  unfold Blk3 at hX4
  simp [set3, World.setCell, Array.getElem?_modify, hX4]

/-- Both calls, the block being made ahead of both, between them, or behind both. -/
theorem of_calls {W : World} {s : Bool} {a1 a2 : Option Addr} {l1 c1 l2 c2 n d : Nat} (h1 : NumE W a1 l1 c1 n) (h2 : NumE W a2 l2 c2 d) (hl1 : l1 ≤ 1000000) (hl2 : l2 ≤ 1000000) :
    Hid (Calls Tryd.prog 56 #[.slice a1 l1 c1] W.drew fun e w3 => ∃ a c, e = .returned (.slice a (D n).length c) ∧ Hid (Same3 W w3) ∧
        Hid (Calls Tryd.prog 56 #[.slice a2 l2 c2] w3 fun e w4 => ∃ b c', e = .returned (.slice b (D d).length c') ∧ Hid (Same3 W w4) ∧ Hid (OfAt W s n d (w4.heap.size, (a, c), (b, c')) (w4.alloc (.cells #[.bool s, .slice a (D n).length c, .slice b (D d).length c'] 88)))) ∧
        Hid (Calls Tryd.prog 56 #[.slice a2 l2 c2] (w3.alloc (.cells #[.bool false, .slice none 0 0, .slice none 0 0] 88)) fun e w4 => ∃ b c', e = .returned (.slice b (D d).length c') ∧
          (w4.cell? ⟨w3.heap.size, 0, none⟩ = some (.bool false) ∧ w4.cell? ⟨w3.heap.size, 1, none⟩ = some (.slice none 0 0) ∧ w4.cell? ⟨w3.heap.size, 2, none⟩ = some (.slice none 0 0) ∧ w4.frozen? ⟨w3.heap.size, 0, none⟩ = false ∧ w4.frozen? ⟨w3.heap.size, 1, none⟩ = false ∧ w4.frozen? ⟨w3.heap.size, 2, none⟩ = false) ∧
          Hid (Same3 W w4) ∧ Hid (OfAt W s n d (w3.heap.size, (a, c), (b, c')) (set3 w4 w3.heap.size s (.slice a (D n).length c) (.slice b (D d).length c'))))) ∧
      Hid (Calls Tryd.prog 56 #[.slice a1 l1 c1] (W.alloc (.cells #[.bool false, .slice none 0 0, .slice none 0 0] 88)).drew fun e w3 => ∃ a c, e = .returned (.slice a (D n).length c) ∧ Hid (Same3 W w3) ∧
        Hid (Calls Tryd.prog 56 #[.slice a2 l2 c2] w3 fun e w4 => ∃ b c', e = .returned (.slice b (D d).length c') ∧
          (w4.cell? ⟨W.heap.size, 0, none⟩ = some (.bool false) ∧ w4.cell? ⟨W.heap.size, 1, none⟩ = some (.slice none 0 0) ∧ w4.cell? ⟨W.heap.size, 2, none⟩ = some (.slice none 0 0) ∧ w4.frozen? ⟨W.heap.size, 0, none⟩ = false ∧ w4.frozen? ⟨W.heap.size, 1, none⟩ = false ∧ w4.frozen? ⟨W.heap.size, 2, none⟩ = false) ∧
          Hid (Same3 W w4) ∧ Hid (OfAt W s n d (W.heap.size, (a, c), (b, c')) (set3 w4 W.heap.size s (.slice a (D n).length c) (.slice b (D d).length c'))))) := by
  have hd1 : Below W.heap.size W W.drew := ⟨rfl, rfl, rfl, Nat.le_refl _, fun _ _ => rfl⟩
  refine ⟨Lib.hid ?_, Lib.hid ?_⟩
  · refine (ofE (h1.kept hd1) hl1).mono ?_
    rintro e w3 ⟨a, c, rfl, d3, hb3, _⟩
    have hB : Below W.heap.size W w3 := hd1.trans hb3
    refine ⟨a, c, rfl, Lib.hid (Same3.of hB), Lib.hid ?_, Lib.hid ?_⟩
    · refine (ofE (h2.kept hB) hl2).mono ?_
      rintro e w4 ⟨b, c', rfl, d4, hb4, _⟩
      have hB4 : Below W.heap.size W w4 := hB.trans (hb4.mono hB.size)
      have ha := (Below.refl w4.heap.size w4).alloc (Nat.le_refl _) (.cells #[.bool s, .slice a (D n).length c, .slice b (D d).length c'] 88)
      exact ⟨b, c', rfl, Lib.hid (Same3.of hB4), Lib.hid ⟨heap_alloc_new w4 _, (d3.kept hb4).kept ha, d4.kept ha, hB4.alloc hB4.size _, hB4.size⟩⟩
    · have ha := (Below.refl w3.heap.size w3).alloc (Nat.le_refl _) (.cells #[.bool false, .slice none 0 0, .slice none 0 0] 88)
      exact of_second h2 hl2 (hB.alloc hB.size _) (d3.kept ha) (heap_alloc_new w3 _) hB.size
  · have hd2 : Below W.heap.size W (W.alloc (.cells #[.bool false, .slice none 0 0, .slice none 0 0] 88)).drew := Below.drewN' ((Below.refl W.heap.size W).alloc (Nat.le_refl _) _) 1
    refine (ofE (h1.kept hd2) hl1).mono ?_
    rintro e w3 ⟨a, c, rfl, d3, hb3, _⟩
    have hB : Below W.heap.size W w3 := hd2.trans (hb3.mono (by simp [World.drew]))
    have hX : Blk3 w3 W.heap.size := (hb3.block _ (by simp [World.drew])).trans (heap_alloc_new W _)
    exact ⟨a, c, rfl, Lib.hid (Same3.of hB), Lib.hid (of_second h2 hl2 hB d3 hX (Nat.le_refl _))⟩

set_option maxRecDepth 100000 in
set_option maxHeartbeats 4000000 in
theorem Of_any (s : Bool) (a1 a2 : Option Addr) (l1 c1 l2 c2 n d : Nat) (w : World) (h1 : NumE w a1 l1 c1 n) (h2 : NumE w a2 l2 c2 d) (hl1 : l1 ≤ 1000000) (hl2 : l2 ≤ 1000000) :
    Calls Tryd.prog 49 #[ratV s (.slice a1 l1 c1) (.slice a2 l2 c2)] w (GivesDR s n (if d = 0 then 1 else d) w) := by
  obtain ⟨W, hW⟩ : ∃ W, W = (w.alloc (.cells #[.bool s, .slice a1 l1 c1, .slice a2 l2 c2] 36)).alloc (.cells #[.bool false, .slice none 0 0, .slice none 0 0] 88) := ⟨_, rfl⟩
  have hB : Below w.heap.size w W := by rw [hW]; exact ((Below.refl _ _).alloc (Nat.le_refl _) _).alloc (by simp) _
  have hx0 : W.heap[w.heap.size]? = some (.cells #[.bool s, .slice a1 l1 c1, .slice a2 l2 c2] 36 (0, 0)) := by rw [hW, Below.heap_alloc _ _ _ (by simp)]; exact heap_alloc_new w _
  have hr0 : Blk3 W (w.heap.size + 1) := by
    unfold Blk3
    rw [hW]; simpa using heap_alloc_new (w.alloc (.cells #[.bool s, .slice a1 l1 c1, .slice a2 l2 c2] 36)) (.cells #[.bool false, .slice none 0 0, .slice none 0 0] 88)
  have hs0 : w.heap.size + 1 < W.heap.size := by rw [hW]; simp
  obtain ⟨HA, HC⟩ := of_calls (s := s) (h1.kept hB) (h2.kept hB) hl1 hl2
  have HWE := Lib.hid hW
  have HX := Lib.hid (And.intro hB hr0)
  obtain ⟨k0, k1, k2, j0, j1, j2⟩ := cells3 hx0
  clear hW h1 h2 hB hx0 hr0
  have hne : w.heap.size < W.heap.size := by omega
  have hne2 : W.heap.size ≠ w.heap.size := by omega
  obtain ⟨d1, hd1⟩ : ∃ d1, (if d = 0 then 1 else d) = d1 := ⟨_, rfl⟩
  rw [hd1]
  have HD1 := Lib.hid hd1
  clear hd1
  unfold ratV
  go_enter Tryd.func49, Tryd.ntmps49
  go_wp2_with fail
  rw [← HWE.out]
  refine wp_region_ex (ι := OfIx) (fun i => [(4, .pointer (some ⟨w.heap.size, 0, none⟩)), (5, .pointer (some ⟨w.heap.size, 0, none⟩)), (6, .bool s), (7, .pointer (some ⟨w.heap.size, 0, none⟩)), (8, .pointer (some ⟨w.heap.size, 1, none⟩)), (9, .slice a1 l1 c1), (10, .slice i.2.1.1 (D n).length i.2.1.2),
    (11, .pointer (some ⟨w.heap.size, 2, none⟩)), (12, .slice a2 l2 c2), (13, .slice i.2.2.1 (D d).length i.2.2.2), (14, .agg #[.bool s, .slice i.2.1.1 (D n).length i.2.1.2, .slice i.2.2.1 (D d).length i.2.2.2]), (3, .pointer (some ⟨i.1, 0, none⟩))]) (OfAt W s n d) ?region ?rest
  case region =>
    go_region_held3 (fun w' => w'.cell? ⟨w.heap.size, 0, none⟩ = some (.bool s) ∧ w'.cell? ⟨w.heap.size, 1, none⟩ = some (.slice a1 l1 c1) ∧ w'.cell? ⟨w.heap.size, 2, none⟩ = some (.slice a2 l2 c2)) (go_keep)
      (first
        | (go_at_call 56; (with_reducible refine HA.out.mono ?_); rintro e w3 ⟨a5, c5, rfl, HP, HF, HG⟩; have q0 := (HP.out _ 0 hne).trans k0; have q1 := (HP.out _ 1 hne).trans k1; have q2 := (HP.out _ 2 hne).trans k2; have hne3 : w3.heap.size ≠ w.heap.size := fun e => by have := World.block_lt_of_cell? w3 _ q0; simp at this; omega)
        | (go_at_call 56; (with_reducible refine HC.out.mono ?_); rintro e w3 ⟨a5, c5, rfl, HP, HH⟩; have q0 := (HP.out _ 0 hne).trans k0; have q1 := (HP.out _ 1 hne).trans k1; have q2 := (HP.out _ 2 hne).trans k2)
        | (go_at_call 56; (with_reducible refine HF.out.mono ?_); rintro e w4 ⟨a6, c6, rfl, HP2, HE⟩; have r0 := (HP2.out _ 0 hne).trans k0; have r1 := (HP2.out _ 1 hne).trans k1; have r2 := (HP2.out _ 2 hne).trans k2)
        | (go_at_call 56; (with_reducible refine HG.out.mono ?_); rintro e w4 ⟨a6, c6, rfl, ⟨m0, m1, m2, n0, n1, n2⟩, HP2, HE⟩; have r0 := (HP2.out _ 0 hne).trans k0; have r1 := (HP2.out _ 1 hne).trans k1; have r2 := (HP2.out _ 2 hne).trans k2)
        | (go_at_call 56; (with_reducible refine HH.out.mono ?_); rintro e w4 ⟨a6, c6, rfl, ⟨m0, m1, m2, n0, n1, n2⟩, HP2, HE⟩; have r0 := (HP2.out _ 0 hne).trans k0; have r1 := (HP2.out _ 1 hne).trans k1; have r2 := (HP2.out _ 2 hne).trans k2))
    all_goals
      refine ⟨_, ?_, HE.out⟩
      simp only [puts, Act.put, List.setIfInBounds_toArray, List.set_cons_zero, List.set_cons_succ]
  case rest =>
    rintro ⟨X, ⟨a5, c5⟩, ⟨a6, c6⟩⟩ w5 hF
    obtain ⟨f1, f2, f3, f4, f5⟩ := hF
    have hbl : Blk3 w5 (w.heap.size + 1) := (f4.block _ hs0).trans HX.out.2
    have hXn : w.heap.size + 1 < X := Nat.lt_of_lt_of_le hs0 f5
    have HB5 := Lib.hid (HX.out.1.trans (f4.mono HX.out.1.size))
    have HF := Lib.hid (And.intro f1 (And.intro f2 (And.intro f3 hbl)))
    dsimp only at f1
    obtain ⟨x0, x1, x2, y0, y1, y2⟩ := cells3 f1
    obtain ⟨m0, m1, m2, n0, n1, n2⟩ := cells3 hbl
    clear f1 f2 f3 f4 f5 hbl HA HC k0 k1 k2 j0 j1 j2 HX hne hne2
    simp only [puts, Act.put, List.setIfInBounds_toArray, List.set_cons_zero, List.set_cons_succ]
    have hXl : X < w5.heap.size := (Array.getElem?_eq_some_iff.1 HF.out.1).1
    by_cases h0 : d = 0
    · have hde : d1 = 1 := by rw [← HD1.out, if_pos h0]
      subst hde
      have hz : (((D d).length : Int) == 0) = true := by rw [h0]; rfl
      have HE : Hid (GivesDR s n 1 w (.returned (ratV s (.slice a5 (D n).length c5) (.slice (some ⟨w5.heap.size, 0, none⟩) (D 1).length 1)))
          (set3 ((w5.alloc (.cells #[.int .i64 1] 3)).setCell ⟨X, 2, none⟩ (.slice (some ⟨w5.heap.size, 0, none⟩) 1 1)) (w.heap.size + 1) s (.slice a5 (D n).length c5) (.slice (some ⟨w5.heap.size, 0, none⟩) 1 1))) := Lib.hid (by
        obtain ⟨f1, f2, f3, f4⟩ := HF.out
        have ha : Below w5.heap.size w5 (w5.alloc (.cells #[.int .i64 1] 3)) := (Below.refl _ _).alloc (Nat.le_refl _) _
        have hX1 : (w5.alloc (.cells #[.int .i64 1] 3)).heap[X]? = some (.cells #[.bool s, .slice a5 (D n).length c5, .slice a6 (D d).length c6] 88 (0, 0)) := (ha.block _ hXl).trans f1
        have hg : (w5.alloc (.cells #[.int .i64 1] 3)).grownBy ((w5.alloc (.cells #[.int .i64 1] 3)).setCell ⟨X, 2, none⟩ (.slice (some ⟨w5.heap.size, 0, none⟩) 1 1)) (some X) := grownBy_set (grown_refl _ _)
        have hrow := (Row.new (E := 3) w5 #[.int .i64 1]).grown hg (by simp; omega)
        have h1 : DAt ((w5.alloc (.cells #[.int .i64 1] 3)).setCell ⟨X, 2, none⟩ (.slice (some ⟨w5.heap.size, 0, none⟩) 1 1)) (some ⟨w5.heap.size, 0, none⟩) 1 1 := ⟨by rw [D_one]; simpa [i64v] using hrow.reads0, by rw [D_one]; simp, by simp [maxLen]⟩
        have hR : Blk3 ((w5.alloc (.cells #[.int .i64 1] 3)).setCell ⟨X, 2, none⟩ (.slice (some ⟨w5.heap.size, 0, none⟩) 1 1)) (w.heap.size + 1) := (hg.block _ (by simp; omega) (by simp; omega)).trans ((ha.block _ (by omega)).trans f4)
        have h2 : DAt ((w5.alloc (.cells #[.int .i64 1] 3)).setCell ⟨X, 2, none⟩ (.slice (some ⟨w5.heap.size, 0, none⟩) 1 1)) a5 c5 n := by
          have hk := f2.kept ha
          have h3 := hk.set3 hX1 s (.slice a5 (D n).length c5) (.slice (some ⟨w5.heap.size, 0, none⟩) 1 1)
          refine ⟨hk.1.grown hg ?_, hk.2⟩
          rcases hk.1 with hr | ⟨g, off, rfl, hr⟩
          · exact .inl hr
          · by_cases e : D n = []
            · exact .inl (by simp [e])
            · refine .inr fun g' off' hgq hbq => ?_
              simp at hgq hbq
              obtain ⟨rfl, rfl⟩ := hgq
              subst hbq
              have := hr 0 _ (map_getElem? (xs := D n) (f := i64v) (List.length_pos_iff.2 e))
              simp only [World.cell?, hX1] at this
              rcases off with _ | _ | _ | off <;> simp [i64v] at this
        have h4 := h2.set3 hR s (.slice a5 (D n).length c5) (.slice (some ⟨w5.heap.size, 0, none⟩) 1 1)
        have h5 := h1.set3 hR s (.slice a5 (D n).length c5) (.slice (some ⟨w5.heap.size, 0, none⟩) 1 1)
        exact ⟨a5, c5, _, 1, rfl, h4, h5, set3_below ((HB5.out.alloc HB5.out.size _).setCell (by simp; omega) _) (by omega)⟩)
      rw [show (D 1).length = 1 from by rw [D_one]; rfl] at HE
      have hq : w5.heap.size ≠ X := by omega
      have hq2 : X ≠ w.heap.size + 1 := by omega
      have hq3 : w.heap.size + 1 ≠ X := by omega
      have hq4 : w.heap.size + 1 < w5.heap.size := by omega
      have hq5 : w5.heap.size ≠ w.heap.size + 1 := by omega
      have hR6 : Blk3 ((w5.alloc (.cells #[.int .i64 1] 3)).setCell ⟨X, 2, none⟩ (.slice (some ⟨w5.heap.size, 0, none⟩) 1 1)) (w.heap.size + 1) := by
        unfold Blk3
        rw [Below.heap_setCell _ _ _ _ (by simp; omega), Below.heap_alloc _ _ _ hq4]
        exact HF.out.2.2.2
      have HE2 : Hid ((set3 ((w5.alloc (.cells #[.int .i64 1] 3)).setCell ⟨X, 2, none⟩ (.slice (some ⟨w5.heap.size, 0, none⟩) 1 1)) (w.heap.size + 1) s (.slice a5 (D n).length c5) (.slice (some ⟨w5.heap.size, 0, none⟩) 1 1)).heap[w.heap.size + 1]? = some (.cells #[.bool s, .slice a5 (D n).length c5, .slice (some ⟨w5.heap.size, 0, none⟩) 1 1] 88 (0, 0))) := Lib.hid (by
        generalize ((w5.alloc (.cells #[.int .i64 1] 3)).setCell ⟨X, 2, none⟩ (.slice (some ⟨w5.heap.size, 0, none⟩) 1 1)) = U at hR6 ⊢
        unfold Blk3 at hR6
        simp [set3, World.setCell, Array.getElem?_modify, hR6])
      clear hR6
      unfold set3 at HE HE2
      rw [World.setCell_alloc_past _ _ _ _ hXl, World.setCell_alloc_past _ _ _ _ (by simpa [World.setCell] using hq4), World.setCell_alloc_past _ _ _ _ (by simpa [World.setCell] using hq4), World.setCell_alloc_past _ _ _ _ (by simpa [World.setCell] using hq4)] at HE HE2
      clear h0 HF HB5
      go_wp2_with fail
      obtain ⟨p0, p1, p2, r0, r1, r2⟩ := cells3 HE2.out
      exact bodyPost_ret (v := ratV s (.slice a5 (D n).length c5) (.slice (some ⟨w5.heap.size, 0, none⟩) 1 1)) (by simp [results, Tryd.results49, go_sem, ratV, p0, p1, p2]) rfl HE.out
    · have hde : d1 = d := by rw [← HD1.out, if_neg h0]
      subst hde
      have hz : (((D d1).length : Int) == 0) = false := cast_beq_no (by rw [Ne, D_len_zero]; exact h0)
      have HE : Hid (GivesDR s n d1 w (.returned (ratV s (.slice a5 (D n).length c5) (.slice a6 (D d1).length c6))) (set3 w5 (w.heap.size + 1) s (.slice a5 (D n).length c5) (.slice a6 (D d1).length c6))) :=
        Lib.hid ⟨a5, c5, a6, c6, rfl, HF.out.2.1.set3 HF.out.2.2.2 _ _ _, HF.out.2.2.1.set3 HF.out.2.2.2 _ _ _, set3_below HB5.out (by omega)⟩
      clear h0 HF HB5
      go_wp2_with fail
      exact bodyPost_ret (v := ratV s (.slice a5 (D n).length c5) (.slice a6 (D d1).length c6)) (by simp [results, Tryd.results49, go_sem, ratV, m0, m1, m2]) rfl HE.out
end Go.Proofs.YtodedlnpokagfaaDoor

