/- By program out of: GcdLong, Gcd, St, RatNum, RatFit, RatMake, RefR, RefForm, RefOf, RatQ, RatThr, RefOps, RatWh, RatAdd, RatMul, RatDiv, RatOps, RefCmp. -/
import Derived.Test.YtmiocohlklnglaaDoorMihmiff
import Derived.Test.YtmiocohlklnglaaDoorMbbaeag
import Derived.Deep.LoopGhost
import Derived.Test.YtmiocohlklnglaaDoorMhadfpk
import Derived.Test.YtmiocohlklnglaaDoorMgpjold
import Derived.Deep.RegionHeld3
import Derived.Test.YtmiocohlklnglaaDoorMofflid
import Derived.Test.YtmiocohlklnglaaDoorMdnomnp
/-
  nat.gcdLong: the greatest common divisor by halves and differences, in the numbers' own memory.
-/
set_option linter.unusedVariables false
set_option linter.unusedSimpArgs false
namespace Go.Proofs.YtmiocohlklnglaaDoor
open Go.RowKit Rep

/-- A number that isn't 0, in a block of its own from B on. -/
structure PosAt (B : Nat) (w : World) (g c n : Nat) : Prop where
  row : Row 71 w g c ((L n).map u32v)
  ge : B ≤ g
  cap : c ≤ maxLen
  pos : 0 < n
theorem PosAt.grown {B g c n g' : Nat} {w w' : World} (h : PosAt B w g c n) (hg : w.grownBy w' (some g')) (hne : g ≠ g') : PosAt B w' g c n := ⟨h.row.grown hg (by simpa using hne), h.ge, h.cap, h.pos⟩
theorem PosAt.num {B g c n : Nat} {w : World} (h : PosAt B w g c n) : NumAt w (some ⟨g, 0, none⟩) c n := ⟨h.row.reads0, by have := h.row.le; simpa using this, h.cap⟩
theorem PosAt.len {B g c n : Nat} {w : World} (h : PosAt B w g c n) : 0 < (L n).length := Nat.pos_of_ne_zero fun e => by rw [L_len_zero] at e; have := h.pos; omega
theorem PosAt.le {B g c n : Nat} {w : World} (h : PosAt B w g c n) : (L n).length ≤ c := by have := h.row.le; simpa using this

/-- A call leaves n in block g, and all else as it was. -/
def GivesPos (B g n : Nat) (w : World) (e : Ending) (w' : World) : Prop := ∃ c', e = .returned (.slice (some ⟨g, 0, none⟩) (L n).length c') ∧ PosAt B w' g c' n ∧ w.grownBy w' (some g)
theorem GivesTake.to_pos {B g n : Nat} {w w' : World} {e : Ending} (h : GivesTake B (some ⟨g, 0, none⟩) n w e w') (hB : B ≤ g) (hn : 0 < n) : GivesPos B g n w e w' := by
  obtain ⟨c', he, hr, hc, hg⟩ := h.pos hn
  exact ⟨c', he, ⟨hr, hB, hc, hn⟩, hg⟩

theorem shr_pos {B g c k m n : Nat} {w : World} (h : PosAt B w g c n) (he : n = 2 ^ k * (2 * m + 1)) (hl : (L n).length ≤ 1000000) :
    Calls Tryd.prog 61 #[.slice (some ⟨g, 0, none⟩) (L n).length c, .int .i64 (k : Int)] w (GivesPos B g (2 * m + 1) w) := by
  have hk : 2 ^ k ≤ n := by
    have : 2 ^ k * 1 ≤ 2 ^ k * (2 * m + 1) := Nat.mul_le_mul_left _ (by omega)
    omega
  refine (shiftRight_own B g c k n w h.row h.ge h.cap hk (by omega)).mono ?_
  rintro e w' ht
  have hq : n / 2 ^ k = 2 * m + 1 := by rw [he, Nat.mul_div_cancel_left _ (Nat.pow_pos (by omega))]
  rw [hq] at ht
  exact ht.to_pos h.ge (by omega)

/-- Between two rounds. -/
structure GcdAt (B : Nat) (w wr : World) (G t k : Nat) (gx cx n gy cy m : Nat) : Prop where
  x : PosAt B wr gx cx n
  y : PosAt B wr gy cy m
  ne : gx ≠ gy
  ox : n % 2 = 1
  oy : m % 2 = 1
  gcd : Nat.gcd n m * 2 ^ t = G
  lx : (L n).length ≤ 1000000
  ly : (L m).length ≤ 1000000
  below : Below B w wr
  tab : Tab wr
  fuel : n + m ≤ k

theorem GcdAt.swap {B : Nat} {w wr : World} {G t k gx cx n gy cy m : Nat} (h : GcdAt B w wr G t k gx cx n gy cy m) : GcdAt B w wr G t k gy cy m gx cx n :=
  ⟨h.y, h.x, Ne.symm h.ne, h.oy, h.ox, by rw [Nat.gcd_comm]; exact h.gcd, h.ly, h.lx, h.below, h.tab, by have := h.fuel; omega⟩

theorem Tab.row {w w' : World} {E : TypeId} {g c : Nat} {vs : List Value} (h : Tab w) (hr : w.frozen? ⟨g, 0, none⟩ = w.frozen? ⟨g, 0, none⟩) (hg : w.grownBy w' (some g)) (hne : g ≠ 0) : Tab w' := fun j hj =>
  hg.cell (h j hj) (by simp; exact fun e => hne e.symm)

theorem odd_mod (m : Nat) : (2 * m + 1) % 2 = 1 := by omega

/-- A difference, and it without its twos: the next round. -/
theorem GcdAt.next {B : Nat} {w wr w2 w3 : World} {G t k gx cx cx2 n gy cy m kk mm : Nat} (h : GcdAt B w wr G t k gx cx n gy cy m) (hlt : m < n) (hx : PosAt B w3 gx cx2 (2 * mm + 1)) (he : n - m = 2 ^ kk * (2 * mm + 1)) (h2 : wr.grownBy w2 (some gx)) (h3 : w2.grownBy w3 (some gx))
    (hB : 0 < B) : GcdAt B w w3 G t (k - 1) gx cx2 (2 * mm + 1) gy cy m := by
  have hle : 2 * mm + 1 ≤ n - m := by
    have : 1 * (2 * mm + 1) ≤ 2 ^ kk * (2 * mm + 1) := Nat.mul_le_mul_right _ (Nat.pow_pos (by omega))
    omega
  have hg := grownBy_trans_new h2 h3
  have hm := h.y.pos
  have hgx := h.x.ge
  refine ⟨hx, h.y.grown hg (Ne.symm h.ne), h.ne, odd_mod _, h.oy, ?_, ?_, h.ly, h.below.grown hg (by have := h.x.row.lt; omega) (fun k hk => by cases hk; exact h.x.ge), fun j hj => hg.cell (h.tab j hj) (by simp; omega), by have := h.fuel; omega⟩
  · rw [gcd_step h.oy (Nat.le_of_lt hlt) he]; exact h.gcd
  · exact Nat.le_trans (rep_len_mono (by omega) (show 2 * mm + 1 ≤ n by omega)) h.lx

/-- A number, and what there was below B is as it was. -/
def GivesBelow (B G : Nat) (w : World) (e : Ending) (w' : World) : Prop := ∃ a c, e = .returned (.slice a (L G).length c) ∧ NumAt w' a c G ∧ Below B w w'

/-- The contracts of a round, n being greater. -/
theorem round_calls {B : Nat} {w wr : World} {G t k gx cx n gy cy m : Nat} (h : GcdAt B w wr G t k gx cx n gy cy m) (hlt : m < n) (hB : 0 < B) :
    Hid (Calls Tryd.prog 63 #[.slice (some ⟨gx, 0, none⟩) (L n).length cx, .slice (some ⟨gy, 0, none⟩) (L m).length cy] wr fun e w2 => ∃ c2, e = .returned (.slice (some ⟨gx, 0, none⟩) (L (n - m)).length c2) ∧
      Hid (Calls Tryd.prog 60 #[.slice (some ⟨gx, 0, none⟩) (L (n - m)).length c2] w2 fun e w2' => ∃ kk : Nat, e = .returned (.int .i64 (kk : Int)) ∧ w2 = w2' ∧
        Hid (Calls Tryd.prog 61 #[.slice (some ⟨gx, 0, none⟩) (L (n - m)).length c2, .int .i64 (kk : Int)] w2 fun e w3 => ∃ c3 n', e = .returned (.slice (some ⟨gx, 0, none⟩) (L n').length c3) ∧ Hid (GcdAt B w w3 G t (k - 1) gx c3 n' gy cy m)))) := by
  have hlm : (L m).length ≤ (L n).length := rep_len_mono (by omega) (Nat.le_of_lt hlt)
  have hln := h.lx
  refine Lib.hid ((takeOff_some B gx (L n) (L m) cx cy (some ⟨gy, 0, none⟩) wr (L_lim n) (L_lim m) h.x.ge h.x.cap h.x.row h.y.row.reads0 (.inr fun g' off e => by cases e; simp; exact Ne.symm h.ne) (by omega) hlm (by rw [V_L, V_L]; omega)).mono ?_)
  rintro e w2 ht
  rw [V_L, V_L] at ht
  obtain ⟨c2, rfl, p2, g2⟩ := ht.to_pos h.x.ge (by omega)
  have hl2 : (L (n - m)).length ≤ 1000000 := Nat.le_trans (rep_len_mono (by omega) (show n - m ≤ n by omega)) h.lx
  have hgx := h.x.ge
  have htab : Tab w2 := fun j hj => g2.cell (h.tab j hj) (by simp; omega)
  refine ⟨c2, rfl, Lib.hid ((zeros_any (some ⟨gx, 0, none⟩) (L (n - m)) c2 w2 (L_lim _) p2.row.reads0 htab (by rw [V_L]; omega) (by omega)).mono ?_)⟩
  rintro e w2' ⟨kk, mm, rfl, he, rfl⟩
  rw [V_L] at he
  refine ⟨kk, rfl, rfl, Lib.hid ((shr_pos p2 he hl2).mono ?_)⟩
  rintro e w3 ⟨c3, rfl, p3, g3⟩
  exact ⟨c3, 2 * mm + 1, rfl, Lib.hid (h.next hlt p3 he g2 g3 hB)⟩

/-- The end of the rounds: both are equal, or both are words. -/
theorem raise_end {B : Nat} {w w1 : World} {G t n : Nat} {a : Option Addr} {c : Nat} (hn : NumAt w1 a c n) (hl : (L n).length ≤ 1000000) (ht : t ≤ 100000000) (hG : n * 2 ^ t = G) (hb : Below B w w1) (hB : B ≤ w1.heap.size) :
    Calls Tryd.prog 62 #[.slice a (L n).length c, .int .i64 (t : Int)] w1 (GivesBelow B G w) := by
  refine (raise_any a c n t w1 hn (by omega) (by omega)).mono ?_
  rintro e w2 ⟨a2, c2, rfl, h2, b2⟩
  rw [hG] at h2 ⊢
  exact ⟨a2, c2, rfl, h2, hb.trans (b2.mono hB)⟩

theorem two_form : ∀ n : Nat, 0 < n → ∃ a m, n = 2 ^ a * (2 * m + 1) := by
  intro n
  induction n using Nat.strongRecOn with
  | _ n ih =>
    intro h
    rcases Nat.mod_two_eq_zero_or_one n with h0 | h0
    · obtain ⟨a, m, he⟩ := ih (n / 2) (by omega) (by omega)
      refine ⟨a + 1, m, ?_⟩
      rw [Nat.pow_succ, Nat.mul_comm (2 ^ a), Nat.mul_assoc, ← he]
      omega
    · exact ⟨0, n / 2, by omega⟩
theorem two_unique {a b m n : Nat} (h : 2 ^ a * (2 * m + 1) = 2 ^ b * (2 * n + 1)) : a = b := by
  have key : ∀ {a b m n : Nat}, a < b → 2 ^ a * (2 * m + 1) = 2 ^ b * (2 * n + 1) → False := by
    intro a b m n hlt h
    obtain ⟨d, rfl⟩ : ∃ d, b = a + 1 + d := ⟨b - a - 1, by omega⟩
    rw [Nat.pow_add, Nat.pow_succ, Nat.mul_assoc, Nat.mul_assoc] at h
    have := Nat.eq_of_mul_eq_mul_left (Nat.pow_pos (by omega)) h
    omega
  rcases Nat.lt_trichotomy a b with hl | hl | hl
  · exact (key hl h).elim
  · exact hl
  · exact (key hl h.symm).elim

theorem zeros_exact {B g c N a m : Nat} {w : World} (h : PosAt B w g c N) (hT : Tab w) (he : N = 2 ^ a * (2 * m + 1)) (hl : (L N).length ≤ 1000000) :
    Calls Tryd.prog 60 #[.slice (some ⟨g, 0, none⟩) (L N).length c] w (Gives (.int .i64 (a : Int)) w) := by
  refine (zeros_any (some ⟨g, 0, none⟩) (L N) c w (L_lim _) h.row.reads0 hT (by rw [V_L]; have := h.pos; omega) (by omega)).mono ?_
  rintro e w' ⟨k, m', rfl, he', rfl⟩
  rw [V_L, he] at he'
  have := two_unique he'
  subst this
  exact ⟨rfl, rfl⟩

theorem exp_bound {N a m : Nat} (he : N = 2 ^ a * (2 * m + 1)) (hl : (L N).length ≤ 1000000) : a ≤ 100000000 := by
  have hk : 2 ^ a ≤ N := by
    have : 2 ^ a * 1 ≤ 2 ^ a * (2 * m + 1) := Nat.mul_le_mul_left _ (by omega)
    omega
  have := len_of_pow hk
  omega

/-- What the first statements' calls give. -/
theorem start_calls {B g1 c1 N g2 c2 M a b ma mb : Nat} {w : World} (hx : PosAt B w g1 c1 N) (hy : PosAt B w g2 c2 M) (hne : g1 ≠ g2) (hB : 0 < B) (hT : Tab w) (lx : (L N).length ≤ 1000000) (ly : (L M).length ≤ 1000000) (ea : N = 2 ^ a * (2 * ma + 1)) (eb : M = 2 ^ b * (2 * mb + 1)) :
    Hid (Calls Tryd.prog 60 #[.slice (some ⟨g1, 0, none⟩) (L N).length c1] w (Gives (.int .i64 (a : Int)) w)) ∧ Hid (Calls Tryd.prog 60 #[.slice (some ⟨g2, 0, none⟩) (L M).length c2] w (Gives (.int .i64 (b : Int)) w)) ∧
      Hid (Calls Tryd.prog 61 #[.slice (some ⟨g1, 0, none⟩) (L N).length c1, .int .i64 (a : Int)] w fun e w2 => ∃ c3, e = .returned (.slice (some ⟨g1, 0, none⟩) (L (2 * ma + 1)).length c3) ∧
        Hid (Calls Tryd.prog 60 #[.slice (some ⟨g2, 0, none⟩) (L M).length c2] w2 (Gives (.int .i64 (b : Int)) w2)) ∧
        Hid (Calls Tryd.prog 61 #[.slice (some ⟨g2, 0, none⟩) (L M).length c2, .int .i64 (b : Int)] w2 fun e w3 => ∃ c4, e = .returned (.slice (some ⟨g2, 0, none⟩) (L (2 * mb + 1)).length c4) ∧ Hid (GcdAt B w w3 (Nat.gcd N M) (min a b) (N + M) g1 c3 (2 * ma + 1) g2 c4 (2 * mb + 1)))) := by
  refine ⟨Lib.hid (zeros_exact hx hT ea lx), Lib.hid (zeros_exact hy hT eb ly), Lib.hid ((shr_pos hx ea lx).mono ?_)⟩
  rintro e w2 ⟨c3, rfl, p3, g3⟩
  have hy2 : PosAt B w2 g2 c2 M := hy.grown g3 (Ne.symm hne)
  have hg1 := hx.ge
  have hg2 := hy.ge
  have hT2 : Tab w2 := fun j hj => g3.cell (hT j hj) (by simp; omega)
  refine ⟨c3, rfl, Lib.hid (zeros_exact hy2 hT2 eb ly), Lib.hid ((shr_pos hy2 eb ly).mono ?_)⟩
  rintro e w3 ⟨c4, rfl, p4, g4⟩
  have hT3 : Tab w3 := fun j hj => g4.cell (hT2 j hj) (by simp; omega)
  have l1 : 2 * ma + 1 ≤ N := by
    have : 1 * (2 * ma + 1) ≤ 2 ^ a * (2 * ma + 1) := Nat.mul_le_mul_right _ (Nat.pow_pos (by omega))
    omega
  have l2 : 2 * mb + 1 ≤ M := by
    have : 1 * (2 * mb + 1) ≤ 2 ^ b * (2 * mb + 1) := Nat.mul_le_mul_right _ (Nat.pow_pos (by omega))
    omega
  have hBw : B ≤ w.heap.size := by have := hx.row.lt; omega
  have hBw2 : B ≤ w2.heap.size := by have := p3.row.lt; omega
  refine ⟨c4, rfl, Lib.hid ⟨p3.grown g4 hne, p4, hne, odd_mod _, odd_mod _, ?_, Nat.le_trans (rep_len_mono (by omega) l1) lx, Nat.le_trans (rep_len_mono (by omega) l2) ly, ?_, hT3, by omega⟩⟩
  · rw [ea, eb, gcd_start (odd_mod _) (odd_mod _)]
  · exact ((Below.refl B w).grown g3 hBw (fun k hk => by cases hk; exact hg1)).grown g4 hBw2 (fun k hk => by cases hk; exact hg2)

theorem GcdAt.kept {B : Nat} {w wr w' : World} {G t k gx cx n gy cy m : Nat} (h : GcdAt B w wr G t k gx cx n gy cy m) (hb : Below wr.heap.size wr w') : GcdAt B w w' G t k gx cx n gy cy m :=
  ⟨⟨h.x.row.kept hb, h.x.ge, h.x.cap, h.x.pos⟩, ⟨h.y.row.kept hb, h.y.ge, h.y.cap, h.y.pos⟩, h.ne, h.ox, h.oy, h.gcd, h.lx, h.ly, h.below.trans (hb.mono (by have := h.x.row.lt; have := h.x.ge; omega)), h.tab.kept hb, h.fuel⟩
theorem GcdAt.size {B : Nat} {w wr : World} {G t k gx cx n gy cy m : Nat} (h : GcdAt B w wr G t k gx cx n gy cy m) : B ≤ wr.heap.size := by have := h.x.row.lt; have := h.x.ge; omega
theorem word_lt {n : Nat} (h : ¬ 2 < (L n).length) : n < 18446744073709551616 := by
  have := (L_len n 2).1 (by omega)
  omega

/-- The calls of the last statement. -/
theorem last_calls {B : Nat} {w wr : World} {G t k gx cx n gy cy m : Nat} (h : GcdAt B w wr G t k gx cx n gy cy m) (h1 : ¬ 2 < (L n).length) (h2 : ¬ 2 < (L m).length) (ht : t ≤ 100000000) :
    Hid (Calls Tryd.prog 53 #[.slice (some ⟨gx, 0, none⟩) (L n).length cx] wr (Gives (.int .u64 (n : Int)) wr)) ∧ Hid (Calls Tryd.prog 53 #[.slice (some ⟨gy, 0, none⟩) (L m).length cy] wr (Gives (.int .u64 (m : Int)) wr)) ∧
      Hid (Calls Tryd.prog 52 #[.int .u64 (n : Int), .int .u64 (m : Int)] wr fun e w2 => ∃ d : Nat, e = .returned (.int .u64 (d : Int)) ∧
        Hid (Calls Tryd.prog 51 #[.int .u64 (d : Int)] w2 fun e w3 => ∃ a c, e = .returned (.slice a (L d).length c) ∧ Hid (Calls Tryd.prog 62 #[.slice a (L d).length c, .int .i64 (t : Int)] w3 (GivesBelow B G w)))) := by
  have hn := word_lt h1
  have hm := word_lt h2
  refine ⟨Lib.hid ?_, Lib.hid ?_, Lib.hid ?_⟩
  · have := word_any (some ⟨gx, 0, none⟩) (L n) cx wr (L_lim n) h.x.row.reads0 (by omega)
    rwa [V_L] at this
  · have := word_any (some ⟨gy, 0, none⟩) (L m) cy wr (L_lim m) h.y.row.reads0 (by omega)
    rwa [V_L] at this
  · refine (gcdWord_any n m wr hn hm).mono ?_
    rintro e w2 ⟨rfl, nd, rfl⟩
    have hd : Nat.gcd n m < 18446744073709551616 := Nat.lt_of_le_of_lt (Nat.le_of_dvd h.x.pos (Nat.gcd_dvd_left n m)) hn
    have hb2 : Below B w (wr.drewN nd) := ⟨h.below.os, h.below.tape, h.below.output, h.below.size, h.below.block⟩
    have hs2 : B ≤ (wr.drewN nd).heap.size := h.size
    refine ⟨Nat.gcd n m, rfl, Lib.hid ?_⟩
    refine (of_any _ hd (wr.drewN nd)).mono ?_
    rintro e w3 ⟨a, c, rfl, hat, hb⟩
    have hl : (L (Nat.gcd n m)).length ≤ 2 := (L_len _ _).2 (by omega)
    exact ⟨a, c, rfl, Lib.hid (raise_end hat (by omega) ht h.gcd (hb2.trans (hb.mono hs2)) (Nat.le_trans hs2 hb.size))⟩

set_option maxRecDepth 100000 in
set_option maxHeartbeats 4000000 in
theorem gcdLong_any (B g1 c1 N g2 c2 M : Nat) (w : World) (hx : PosAt B w g1 c1 N) (hy : PosAt B w g2 c2 M) (hne : g1 ≠ g2) (hB : 0 < B) (hT : Tab w) (lx : (L N).length ≤ 1000000) (ly : (L M).length ≤ 1000000) :
    Calls Tryd.prog 54 #[.slice (some ⟨g1, 0, none⟩) (L N).length c1, .slice (some ⟨g2, 0, none⟩) (L M).length c2] w (GivesBelow B (Nat.gcd N M) w) := by
  obtain ⟨a, ma, ea⟩ := two_form N hx.pos
  obtain ⟨b, mb, eb⟩ := two_form M hy.pos
  obtain ⟨HZ1, HZ2, HS1⟩ := start_calls hx hy hne hB hT lx ly ea eb
  have hab : a ≤ 100000000 := exp_bound ea lx
  have hbb : b ≤ 100000000 := exp_bound eb ly
  clear hx hy hne hT ea eb
  go_enter Tryd.func54, Tryd.ntmps54
  go_wp2_with fail
  refine HZ1.out.mono ?_
  rintro e w' ⟨rfl, rfl⟩
  go_wp2_with fail
  refine HZ2.out.mono ?_
  rintro e w' ⟨rfl, rfl⟩
  go_wp2_with fail
  refine HZ1.out.mono ?_
  rintro e w' ⟨rfl, rfl⟩
  go_wp2_with fail
  refine HS1.out.mono ?_
  rintro e w2 ⟨c3, rfl, HZ3, HS2⟩
  go_wp2_with fail
  refine HZ3.out.mono ?_
  rintro e w' ⟨rfl, rfl⟩
  go_wp2_with fail
  refine HS2.out.mono ?_
  rintro e w3 ⟨c4, rfl, HG⟩
  rw [min_nat]
  have ht : min a b ≤ 100000000 := by omega
  clear HZ1 HZ2 HZ3 HS1 HS2 hab hbb lx ly
  generalize min a b = t at *
  generalize hGe : Nat.gcd N M = G at *
  clear hGe
  go_wp2_with fail
  go_loopg [0, 1] (N + M) (fun k xv yv wr => ∃ gx cx n gy cy m, xv = .slice (some ⟨gx, 0, none⟩) (L n).length cx ∧ yv = .slice (some ⟨gy, 0, none⟩) (L m).length cy ∧ GcdAt B w wr G t k gx cx n gy cy m)
  case atStart => exact ⟨_, _, _, _, _, _, rfl, rfl, HG.out⟩
  case round =>
    obtain ⟨gx, cx, n, gy, cy, m, rfl, rfl, hg⟩ := hrel
    have HR := Lib.hid hg
    have hnl := hg.lx
    have hml := hg.ly
    have hfu : 0 < gk := by have := hg.fuel; have := hg.x.pos; omega
    clear hg HG
    by_cases hex : ¬ 2 < (L n).length ∧ ¬ 2 < (L m).length
    · obtain ⟨e1, e2⟩ := hex
      obtain ⟨HA, HBw, HC⟩ := last_calls HR.out e1 e2 ht
      have d1 : decide ((2 : Int) < ((L n).length : Int)) = false := decide_eq_false (by omega)
      have d2 : decide ((2 : Int) < ((L m).length : Int)) = false := decide_eq_false (by omega)
      clear HR
      go_wp2_with fail
      refine HA.out.mono ?_
      rintro e w' ⟨rfl, rfl⟩
      go_wp2_with fail
      refine HBw.out.mono ?_
      rintro e w' ⟨rfl, rfl⟩
      go_wp2_with fail
      refine HC.out.mono ?_
      rintro e w4 ⟨d, rfl, HO⟩
      clear HA HBw HC d1 d2 e1 e2
      go_wp2_with fail
      refine HO.out.mono ?_
      rintro e w5 ⟨a5, c5, rfl, HRs⟩
      clear HO
      go_wp2_with fail
      refine HRs.out.mono ?_
      rintro e w6 ⟨a6, c6, rfl, hn6, hb6⟩
      have HE := Lib.hid (And.intro hn6 hb6)
      clear hn6 hb6 HRs
      go_wp2_with fail
      go_ret
      exact ⟨a6, c6, rfl, HE.out.1, HE.out.2⟩
    · have hgo : ((decide ((2 : Int) < ((L n).length : Int)) = true) ∧ (2 : Int) < ((L n).length : Int)) ∨ (decide ((2 : Int) < ((L n).length : Int)) = false ∧ decide ((2 : Int) < ((L m).length : Int)) = true ∧ (2 : Int) < ((L m).length : Int)) := by
        by_cases e1 : 2 < (L n).length
        · exact .inl ⟨decide_eq_true (by omega), by omega⟩
        · exact .inr ⟨decide_eq_false (by omega), decide_eq_true (by omega), by omega⟩
      have HCM := Lib.hid (compare_num (some ⟨gx, 0, none⟩) (some ⟨gy, 0, none⟩) cx cy n m wr HR.out.x.num HR.out.y.num (by omega))
      clear hex
      have hcs : (cmpI (n : Int) (m : Int) = 0 ∧ n = m) ∨ (cmpI (n : Int) (m : Int) = 1 ∧ m < n) ∨ (cmpI (n : Int) (m : Int) = -1 ∧ n < m) := by
        unfold cmpI
        rcases Nat.lt_trichotomy n m with h | h | h
        · rw [if_pos (by omega)]; exact .inr (.inr ⟨rfl, h⟩)
        · rw [if_neg (by omega), if_pos (by omega)]; exact .inl ⟨rfl, h⟩
        · rw [if_neg (by omega), if_neg (by omega)]; exact .inr (.inl ⟨rfl, h⟩)
      generalize cmpI (n : Int) (m : Int) = cm at *
      rcases hgo with ⟨d1, d2⟩ | ⟨d1, d2, d3⟩
      all_goals
        rcases hcs with ⟨rfl, he⟩ | ⟨rfl, he⟩ | ⟨rfl, he⟩
        · have hd : n * 2 ^ t = G := by have := HR.out.gcd; rw [← he, Nat.gcd_self] at this; exact this
          have HRA := Lib.hid (fun (w4 : World) (hb : Below wr.heap.size wr w4) => raise_end (HR.out.kept hb).x.num HR.out.lx ht hd (HR.out.kept hb).below (HR.out.kept hb).size)
          clear he hd HR
          go_wp2_with fail
          refine HCM.out.mono ?_
          rintro e w4 ⟨rfl, hb4⟩
          have HRB := Lib.hid (HRA.out w4 hb4)
          clear HRA hb4 HCM
          go_wp2_with fail
          refine HRB.out.mono ?_
          rintro e w6 ⟨a6, c6, rfl, hn6, hb6⟩
          have HE := Lib.hid (And.intro hn6 hb6)
          clear hn6 hb6 HRB
          go_wp2_with fail
          go_ret
          exact ⟨a6, c6, rfl, HE.out.1, HE.out.2⟩
        · have HRC := Lib.hid (fun (w4 : World) (hb : Below wr.heap.size wr w4) => round_calls (HR.out.kept hb) he hB)
          clear he HR
          go_wp2_with fail
          refine HCM.out.mono ?_
          rintro e w4 ⟨rfl, hb4⟩
          have HT := Lib.hid (HRC.out w4 hb4).out
          clear HRC hb4 HCM
          go_wp2_with fail
          refine HT.out.mono ?_
          rintro e w5 ⟨c5, rfl, HZ⟩
          clear HT
          go_wp2_with fail
          refine HZ.out.mono ?_
          rintro e w6 ⟨kk, rfl, rfl, HS⟩
          clear HZ
          go_wp2_with fail
          refine HS.out.mono ?_
          rintro e w7 ⟨c7, n7, rfl, HN⟩
          clear HS
          go_wp2_with fail
          go_roundg (gk - 1)
          case rel => exact ⟨_, _, _, _, _, _, rfl, rfl, HN.out⟩
          case measure => omega
        · have HRC := Lib.hid (fun (w4 : World) (hb : Below wr.heap.size wr w4) => round_calls (HR.out.kept hb).swap he hB)
          clear he HR
          go_wp2_with fail
          refine HCM.out.mono ?_
          rintro e w4 ⟨rfl, hb4⟩
          have HT := Lib.hid (HRC.out w4 hb4).out
          clear HRC hb4 HCM
          go_wp2_with fail
          refine HT.out.mono ?_
          rintro e w5 ⟨c5, rfl, HZ⟩
          clear HT
          go_wp2_with fail
          refine HZ.out.mono ?_
          rintro e w6 ⟨kk, rfl, rfl, HS⟩
          clear HZ
          go_wp2_with fail
          refine HS.out.mono ?_
          rintro e w7 ⟨c7, n7, rfl, HN⟩
          clear HS
          go_wp2_with fail
          go_roundg (gk - 1)
          case rel => exact ⟨_, _, _, _, _, _, rfl, rfl, HN.out⟩
          case measure => omega
end Go.Proofs.YtmiocohlklnglaaDoor


/-
  nat.gcd; the bench's Gcd.
-/
set_option linter.unusedVariables false
set_option linter.unusedSimpArgs false
namespace Go.Proofs.YtmiocohlklnglaaDoor
open Go.RowKit Rep

theorem Own.pos_at {B c n : Nat} {w : World} {a : Option Addr} (h : Own B w a c (L n)) (hn : 0 < n) : ∃ g, a = some ⟨g, 0, none⟩ ∧ PosAt B w g c n := by
  have hpos : 0 < (L n).length := Nat.pos_of_ne_zero fun e => by rw [L_len_zero] at e; omega
  obtain ⟨g, rfl, hg, hr⟩ := h.row hpos
  exact ⟨g, rfl, hr, hg, h.1, hn⟩

theorem gcd_calls {w w1 : World} {a1 a2 : Option Addr} {c1 c2 n1 n2 G : Nat} (hb : Below w.heap.size w w1) (h1 : NumAt w a1 c1 n1) (h2 : NumAt w a2 c2 n2) (hT : Tab w) (hn2 : 0 < n2) (l1 : (L n1).length ≤ 1000000) (l2 : (L n2).length ≤ 1000000) (hG : Nat.gcd n1 n2 = G) :
    Hid (Calls Tryd.prog 50 #[.slice a1 (L n1).length c1, .slice a2 (L n2).length c2] w1 fun e w2 => ∃ a3 c3 a4 c4 q r, e = .returned (.tuple #[.slice a3 (L q).length c3, .slice a4 (L r).length c4]) ∧
      Hid (r = 0 → Calls Tryd.prog 30 #[.slice a2 (L n2).length c2] w2 fun e w3 => ∃ a c, e = .returned (.slice a (L n2).length c) ∧ Hid (n2 = G ∧ NumAt w3 a c n2 ∧ Below w.heap.size w w3)) ∧
      Hid (0 < r → (L n2).length ≤ 2 → (Calls Tryd.prog 53 #[.slice a2 (L n2).length c2] w2 (Gives (.int .u64 (n2 : Int)) w2)) ∧ (Calls Tryd.prog 53 #[.slice a4 (L r).length c4] w2 (Gives (.int .u64 (r : Int)) w2)) ∧
        (Calls Tryd.prog 52 #[.int .u64 (n2 : Int), .int .u64 (r : Int)] w2 fun e w3 => e = .returned (.int .u64 (G : Int)) ∧ Hid (Calls Tryd.prog 51 #[.int .u64 (G : Int)] w3 (GivesBelow w.heap.size G w)))) ∧
      Hid (0 < r → Calls Tryd.prog 30 #[.slice a2 (L n2).length c2] w2 fun e w3 => ∃ a5 c5, e = .returned (.slice a5 (L n2).length c5) ∧ Hid (Calls Tryd.prog 54 #[.slice a5 (L n2).length c5, .slice a4 (L r).length c4] w3 (GivesBelow w.heap.size G w)))) := by
  refine Lib.hid ((divide_any a1 a2 c1 c2 n1 n2 w1 (h1.kept hb) (h2.kept hb) hn2 l1).mono ?_)
  rintro e w2 hd
  obtain ⟨a3, c3, a4, c4, rfl, o1, o2, hB⟩ := hd.mono hb
  have h22 := h2.kept hB
  have hlr : (L (n1 % n2)).length ≤ 1000000 := Nat.le_trans (rep_len_mono (by omega) (Nat.le_of_lt (Nat.mod_lt n1 hn2))) l2
  have hGr : Nat.gcd n2 (n1 % n2) = G := by rw [← hG, Nat.gcd_comm n1 n2, Nat.gcd_rec n2 n1, Nat.gcd_comm]
  have hs : w.heap.size ≤ w2.heap.size := hB.size
  refine ⟨a3, c3, a4, c4, n1 / n2, n1 % n2, rfl, Lib.hid fun h0 => ?_, Lib.hid fun h0 hl => ?_, Lib.hid fun h0 => ?_⟩
  · refine (clone_any a2 c2 n2 w2 h22 (by omega)).mono ?_
    rintro e w3 ⟨a, c, rfl, ho, hb3⟩
    rw [h0, Nat.gcd_zero_right] at hGr
    exact ⟨a, c, rfl, Lib.hid ⟨hGr, ho.num, hB.trans (hb3.mono hs)⟩⟩
  · have b2 := word_lt (n := n2) (by omega)
    have br : n1 % n2 < 18446744073709551616 := Nat.lt_trans (Nat.mod_lt n1 hn2) b2
    have hlr2 : (L (n1 % n2)).length ≤ 2 := (L_len _ _).2 (by omega)
    refine ⟨?_, ?_, ?_⟩
    · have := word_any a2 (L n2) c2 w2 (L_lim n2) h22.1 hl
      rwa [V_L] at this
    · have := word_any a4 (L (n1 % n2)) c4 w2 (L_lim _) o2.reads hlr2
      rwa [V_L] at this
    · refine (gcdWord_any n2 (n1 % n2) w2 b2 br).mono ?_
      rintro e w3 ⟨rfl, nd, rfl⟩
      rw [hGr]
      have hG2 : G < 18446744073709551616 := by
        rw [← hGr]; exact Nat.lt_of_le_of_lt (Nat.le_of_dvd hn2 (Nat.gcd_dvd_left _ _)) b2
      refine ⟨rfl, Lib.hid ?_⟩
      refine (of_any G hG2 (w2.drewN nd)).mono ?_
      rintro e w4 ⟨a, c, rfl, hat, hb4⟩
      have hB2 : Below w.heap.size w (w2.drewN nd) := ⟨hB.os, hB.tape, hB.output, hB.size, hB.block⟩
      exact ⟨a, c, rfl, hat, hB2.trans (hb4.mono hs)⟩
  · refine (clone_any a2 c2 n2 w2 h22 (by omega)).mono ?_
    rintro e w3 ⟨a5, c5, rfl, ho, hb3⟩
    obtain ⟨g4, rfl, p4⟩ := o2.pos_at h0
    obtain ⟨g5, rfl, p5⟩ := ho.pos_at hn2
    have hg4 := p4.row.lt
    have p4' : PosAt w.heap.size w3 g4 c4 (n1 % n2) := ⟨p4.row.kept hb3, p4.ge, p4.cap, p4.pos⟩
    have p5' : PosAt w.heap.size w3 g5 c5 n2 := ⟨p5.row, Nat.le_trans hs p5.ge, p5.cap, p5.pos⟩
    have hne : g5 ≠ g4 := by have := p5.ge; omega
    have htb : 0 < w.heap.size := World.block_lt_of_cell? w _ (hT 0 (by decide))
    refine ⟨_, c5, rfl, Lib.hid ?_⟩
    refine (gcdLong_any w.heap.size g5 c5 n2 g4 c4 (n1 % n2) w3 p5' p4' hne htb ((hT.kept hB).kept hb3) l2 hlr).mono ?_
    rintro e w4 ⟨a, c, rfl, hn, hb4⟩
    rw [hGr] at hn ⊢
    exact ⟨a, c, rfl, hn, (hB.trans (hb3.mono hs)).trans hb4⟩

set_option maxRecDepth 100000 in
set_option maxHeartbeats 4000000 in
theorem gcd_any (ax ay : Option Addr) (cx cy N M : Nat) (w : World) (hx : NumAt w ax cx N) (hy : NumAt w ay cy M) (hT : Tab w) (lx : (L N).length ≤ 1000000) (ly : (L M).length ≤ 1000000) :
    Calls Tryd.prog 46 #[.slice ax (L N).length cx, .slice ay (L M).length cy] w (GivesBelow w.heap.size (Nat.gcd N M) w) := by
  have HCM := Lib.hid (compare_num ax ay cx cy N M w hx hy (by omega))
  have hcs : (cmpI (N : Int) (M : Int) < 0 ∧ N < M) ∨ (¬ cmpI (N : Int) (M : Int) < 0 ∧ M ≤ N) := by
    unfold cmpI
    by_cases h : N < M
    · rw [if_pos (by omega)]; exact .inl ⟨by omega, h⟩
    · rw [if_neg (by omega)]; refine .inr ⟨?_, by omega⟩; split <;> omega
  obtain ⟨G, hG⟩ : ∃ G, Nat.gcd N M = G := ⟨_, rfl⟩
  rw [hG]
  generalize cmpI (N : Int) (M : Int) = cm at *
  go_enter Tryd.func46, Tryd.ntmps46
  go_wp2_with fail
  refine HCM.out.mono ?_
  rintro e w1 ⟨rfl, hb1⟩
  have HB := Lib.hid hb1
  clear HCM hb1
  rcases hcs with ⟨hc, hle⟩ | ⟨hc, hle⟩
  · obtain ⟨a1, rfl⟩ : ∃ z, z = ay := ⟨_, rfl⟩
    obtain ⟨a2, rfl⟩ : ∃ z, z = ax := ⟨_, rfl⟩
    obtain ⟨c1, rfl⟩ : ∃ z, z = cy := ⟨_, rfl⟩
    obtain ⟨c2, rfl⟩ : ∃ z, z = cx := ⟨_, rfl⟩
    obtain ⟨n1, rfl⟩ : ∃ z, z = M := ⟨_, rfl⟩
    obtain ⟨n2, rfl⟩ : ∃ z, z = N := ⟨_, rfl⟩
    rw [Nat.gcd_comm] at hG
    have H1 := Lib.hid (And.intro hy (And.intro hx (And.intro hT hG)))
    have hl1 := ly
    have hl2 := lx
    clear hx hy hT hG hle lx ly
    rcases Nat.eq_zero_or_pos n2 with h0 | h0
    · have HG : Hid (n1 = G) := Lib.hid (by have := H1.out.2.2.2; rw [h0, Nat.gcd_zero_right] at this; exact this)
      have hz : (((L n2).length : Int) == 0) = true := by rw [h0]; rfl
      have HC := Lib.hid (clone_any a1 c1 n1 w1 (H1.out.1.kept HB.out) (by omega))
      clear h0 H1
      go_wp2_with fail
      refine HC.out.mono ?_
      rintro e w2 ⟨a, c, rfl, ho, hb⟩
      have HE := Lib.hid (And.intro ho.num (HB.out.trans (hb.mono HB.out.size)))
      clear ho hb HC
      go_wp2_with fail
      go_ret
      exact ⟨a, c, by rw [← HG.out]; rfl, by rw [← HG.out]; exact HE.out.1, HE.out.2⟩
    · have hz : (((L n2).length : Int) == 0) = false := cast_beq_no (by rw [Ne, L_len_zero]; omega)
      have HD := gcd_calls HB.out H1.out.1 H1.out.2.1 H1.out.2.2.1 h0 hl1 hl2 H1.out.2.2.2
      clear H1
      go_wp2_with fail
      refine HD.out.mono ?_
      rintro e w2 ⟨a3, c3, a4, c4, q, r, rfl, HA, HW, HL⟩
      clear HD hz
      rcases Nat.eq_zero_or_pos r with hr | hr
      · have hz : (((L r).length : Int) == 0) = true := by rw [hr]; rfl
        have HA2 := Lib.hid (HA.out hr)
        clear HA HW HL hr
        go_wp2_with fail
        refine HA2.out.mono ?_
        rintro e w3 ⟨a, c, rfl, HE⟩
        clear HA2
        go_wp2_with fail
        go_ret
        exact ⟨a, c, by rw [← HE.out.1]; rfl, by rw [← HE.out.1]; exact HE.out.2.1, HE.out.2.2⟩
      · have hz : (((L r).length : Int) == 0) = false := cast_beq_no (by rw [Ne, L_len_zero]; omega)
        by_cases hl : (L n2).length ≤ 2
        · have hd : decide (((L n2).length : Int) ≤ 2) = true := decide_eq_true (by omega)
          have hdi : ((L n2).length : Int) ≤ 2 := by omega
          have HW2 := Lib.hid (HW.out hr hl)
          clear HA HW HL hr hl
          go_wp2_with fail
          refine HW2.out.1.mono ?_
          rintro e w' ⟨rfl, rfl⟩
          go_wp2_with fail
          refine HW2.out.2.1.mono ?_
          rintro e w' ⟨rfl, rfl⟩
          go_wp2_with fail
          refine HW2.out.2.2.mono ?_
          rintro e w3 ⟨rfl, HO⟩
          clear HW2
          go_wp2_with fail
          refine HO.out.mono ?_
          rintro e w4 ⟨a, c, rfl, hn, hb⟩
          have HE := Lib.hid (And.intro hn hb)
          clear hn hb HO
          go_wp2_with fail
          go_ret
          exact ⟨a, c, rfl, HE.out.1, HE.out.2⟩
        · have hd : decide (((L n2).length : Int) ≤ 2) = false := decide_eq_false (by omega)
          have hdi : ¬ ((L n2).length : Int) ≤ 2 := by omega
          have HL2 := Lib.hid (HL.out hr)
          clear HA HW HL hr hl
          go_wp2_with fail
          refine HL2.out.mono ?_
          rintro e w3 ⟨a5, c5, rfl, HG⟩
          clear HL2
          go_wp2_with fail
          refine HG.out.mono ?_
          rintro e w4 ⟨a, c, rfl, hn, hb⟩
          have HE := Lib.hid (And.intro hn hb)
          clear hn hb HG
          go_wp2_with fail
          go_ret
          exact ⟨a, c, rfl, HE.out.1, HE.out.2⟩
  · obtain ⟨a1, rfl⟩ : ∃ z, z = ax := ⟨_, rfl⟩
    obtain ⟨a2, rfl⟩ : ∃ z, z = ay := ⟨_, rfl⟩
    obtain ⟨c1, rfl⟩ : ∃ z, z = cx := ⟨_, rfl⟩
    obtain ⟨c2, rfl⟩ : ∃ z, z = cy := ⟨_, rfl⟩
    obtain ⟨n1, rfl⟩ : ∃ z, z = N := ⟨_, rfl⟩
    obtain ⟨n2, rfl⟩ : ∃ z, z = M := ⟨_, rfl⟩
    have H1 := Lib.hid (And.intro hx (And.intro hy (And.intro hT hG)))
    have hl1 := lx
    have hl2 := ly
    clear hx hy hT hG hle lx ly
    rcases Nat.eq_zero_or_pos n2 with h0 | h0
    · have HG : Hid (n1 = G) := Lib.hid (by have := H1.out.2.2.2; rw [h0, Nat.gcd_zero_right] at this; exact this)
      have hz : (((L n2).length : Int) == 0) = true := by rw [h0]; rfl
      have HC := Lib.hid (clone_any a1 c1 n1 w1 (H1.out.1.kept HB.out) (by omega))
      clear h0 H1
      go_wp2_with fail
      refine HC.out.mono ?_
      rintro e w2 ⟨a, c, rfl, ho, hb⟩
      have HE := Lib.hid (And.intro ho.num (HB.out.trans (hb.mono HB.out.size)))
      clear ho hb HC
      go_wp2_with fail
      go_ret
      exact ⟨a, c, by rw [← HG.out]; rfl, by rw [← HG.out]; exact HE.out.1, HE.out.2⟩
    · have hz : (((L n2).length : Int) == 0) = false := cast_beq_no (by rw [Ne, L_len_zero]; omega)
      have HD := gcd_calls HB.out H1.out.1 H1.out.2.1 H1.out.2.2.1 h0 hl1 hl2 H1.out.2.2.2
      clear H1
      go_wp2_with fail
      refine HD.out.mono ?_
      rintro e w2 ⟨a3, c3, a4, c4, q, r, rfl, HA, HW, HL⟩
      clear HD hz
      rcases Nat.eq_zero_or_pos r with hr | hr
      · have hz : (((L r).length : Int) == 0) = true := by rw [hr]; rfl
        have HA2 := Lib.hid (HA.out hr)
        clear HA HW HL hr
        go_wp2_with fail
        refine HA2.out.mono ?_
        rintro e w3 ⟨a, c, rfl, HE⟩
        clear HA2
        go_wp2_with fail
        go_ret
        exact ⟨a, c, by rw [← HE.out.1]; rfl, by rw [← HE.out.1]; exact HE.out.2.1, HE.out.2.2⟩
      · have hz : (((L r).length : Int) == 0) = false := cast_beq_no (by rw [Ne, L_len_zero]; omega)
        by_cases hl : (L n2).length ≤ 2
        · have hd : decide (((L n2).length : Int) ≤ 2) = true := decide_eq_true (by omega)
          have hdi : ((L n2).length : Int) ≤ 2 := by omega
          have HW2 := Lib.hid (HW.out hr hl)
          clear HA HW HL hr hl
          go_wp2_with fail
          refine HW2.out.1.mono ?_
          rintro e w' ⟨rfl, rfl⟩
          go_wp2_with fail
          refine HW2.out.2.1.mono ?_
          rintro e w' ⟨rfl, rfl⟩
          go_wp2_with fail
          refine HW2.out.2.2.mono ?_
          rintro e w3 ⟨rfl, HO⟩
          clear HW2
          go_wp2_with fail
          refine HO.out.mono ?_
          rintro e w4 ⟨a, c, rfl, hn, hb⟩
          have HE := Lib.hid (And.intro hn hb)
          clear hn hb HO
          go_wp2_with fail
          go_ret
          exact ⟨a, c, rfl, HE.out.1, HE.out.2⟩
        · have hd : decide (((L n2).length : Int) ≤ 2) = false := decide_eq_false (by omega)
          have hdi : ¬ ((L n2).length : Int) ≤ 2 := by omega
          have HL2 := Lib.hid (HL.out hr)
          clear HA HW HL hr hl
          go_wp2_with fail
          refine HL2.out.mono ?_
          rintro e w3 ⟨a5, c5, rfl, HG⟩
          clear HL2
          go_wp2_with fail
          refine HG.out.mono ?_
          rintro e w4 ⟨a, c, rfl, hn, hb⟩
          have HE := Lib.hid (And.intro hn hb)
          clear hn hb HG
          go_wp2_with fail
          go_ret
          exact ⟨a, c, rfl, HE.out.1, HE.out.2⟩

set_option maxRecDepth 100000 in
set_option maxHeartbeats 1000000 in
theorem Gcd_any (b m : Nat) (ax ay : Option Addr) (xs ys : List Nat) (cx cy : Nat) (w : World) (o : Bool) (h : Bench w b m o) (hx : NumIn w ax cx xs) (hy : NumIn w ay cy ys) (hT : Tab w) (lx : xs.length ≤ 1000000) (ly : ys.length ≤ 1000000) :
    Calls Tryd.prog 41 #[.pointer (some ⟨b, 0, none⟩), .slice ax xs.length cx, .slice ay ys.length cy] w (GivesOut b m o (Nat.gcd (V xs) (V ys)) w) := by
  cases o with
  | true => exact Gcd_over b m _ _ _ w h
  | false =>
    have h1 := h.c1
    have HB := Lib.hid h
    have hlx := cutAt_len xs hx.lim
    have hly := cutAt_len ys hy.lim
    have HT := Lib.hid hT
    clear h hT
    go_enter Tryd.func41, Tryd.ntmps41
    go_wp2_with fail
    refine (trim_num ax xs cx w hx.lim hx.reads hx.le hx.cap).mono ?_
    rintro e w' ⟨a1, c1, rfl, n1, rfl⟩
    go_wp2_with fail
    refine (trim_num ay ys cy w hy.lim hy.reads hy.le hy.cap).mono ?_
    rintro e w' ⟨a2, c2, rfl, n2, rfl⟩
    clear hx hy
    generalize V xs = N at *
    generalize V ys = M at *
    have HG := Lib.hid (gcd_any a1 a2 c1 c2 N M w n1 n2 HT.out (by omega) (by omega))
    generalize Nat.gcd N M = G at *
    clear n1 n2 HT
    go_wp2_with fail
    refine HG.out.mono ?_
    rintro e w1 ⟨a, c, rfl, hn, hb⟩
    have HF := Lib.hid (fit_out w w1 b m false a G c HB.out hn hb)
    clear hn hb HG h1
    go_wp2_with fail
    refine HF.out.mono ?_
    rintro e w2 ⟨a3, c3, rfl, hat, hb2, hg⟩
    have HE := Lib.hid (And.intro hat (And.intro hb2 hg))
    clear hat hb2 hg HF
    go_wp2_with fail
    go_ret
    exact ⟨a3, c3, rfl, HE.out.1, HE.out.2.1, HE.out.2.2⟩
end Go.Proofs.YtmiocohlklnglaaDoor


/-
  A bench with room enough, and numbers: what its calls give, said of one state.
-/
set_option linter.unusedVariables false
set_option linter.unusedSimpArgs false
namespace Go.Proofs.YtmiocohlklnglaaDoor
open Go.RowKit Rep

theorem remN_le (n m : Nat) : remN n m ≤ n := by
  unfold remN
  split
  · omega
  · exact Nat.mod_le _ _

/-- Where limbs lie: address, room, limbs. -/
abbrev Num := Option Addr × Nat × List Nat
/-- A bench that isn't over, in memory that came behind 'base', and numbers. -/
structure StB (b m : Nat) (base W : World) (l : List Num) : Prop where
  bench : Bench W b m false
  below : Below base.heap.size base W
  ge : base.heap.size ≤ b
  tab : Tab W
  max : m ≤ maxLen
  nums : ∀ t ∈ l, NumIn W t.1 t.2.1 t.2.2 ∧ t.2.2.length ≤ 100000

theorem StB.num {b m : Nat} {base W : World} {l : List Num} (h : StB b m base W l) {a : Option Addr} {c : Nat} {xs : List Nat} (hm : (a, c, xs) ∈ l) : NumIn W a c xs := (h.nums _ hm).1
theorem StB.len {b m : Nat} {base W : World} {l : List Num} (h : StB b m base W l) {a : Option Addr} {c : Nat} {xs : List Nat} (hm : (a, c, xs) ∈ l) : xs.length ≤ 100000 := (h.nums _ hm).2
theorem StB.grown {b m : Nat} {base W W' : World} {l : List Num} (h : StB b m base W l) (hb : Bench W' b m false) (hg : W.grownBy W' (some b)) : StB b m base W' l :=
  ⟨hb, h.below.grown hg h.below.size (fun k hk => by cases hk; exact h.ge), h.ge, h.tab.bench h.bench hg, h.max, fun t ht => ⟨(h.nums t ht).1.bench h.bench hg, (h.nums t ht).2⟩⟩
theorem StB.kept {b m : Nat} {base W W' : World} {l : List Num} (h : StB b m base W l) (hb : Below W.heap.size W W') : StB b m base W' l :=
  ⟨h.bench.kept hb, h.below.trans (hb.mono h.below.size), h.ge, h.tab.kept hb, h.max, fun t ht => ⟨(h.nums t ht).1.kept hb, (h.nums t ht).2⟩⟩
theorem StB.cons {b m : Nat} {base W : World} {l : List Num} (h : StB b m base W l) {a : Option Addr} {c : Nat} {xs : List Nat} (hx : NumIn W a c xs) (hl : xs.length ≤ 100000) : StB b m base W ((a, c, xs) :: l) :=
  ⟨h.bench, h.below, h.ge, h.tab, h.max, fun t ht => by
    rcases List.mem_cons.1 ht with rfl | ht
    · exact ⟨hx, hl⟩
    · exact h.nums t ht⟩
theorem StB.out {b m n : Nat} {base W W' : World} {l : List Num} {e : Ending} (h : StB b m base W l) (hg : GivesOut b m false n W e W') (hn : (L n).length ≤ m) (hl : (L n).length ≤ 100000) :
    ∃ a c, e = .returned (.slice a (L n).length c) ∧ Hid (StB b m base W' ((a, c, L n) :: l)) := by
  obtain ⟨a, c, rfl, hat, hb, hgr⟩ := hg
  have ho : outO m false n = false := by simp [outO]; omega
  have hN : outN m false n = n := by unfold outN; rw [ho]; rfl
  rw [ho] at hb
  rw [hN] at hat ⊢
  exact ⟨a, c, rfl, Lib.hid ((h.grown hb hgr).cons (hat.inn (by omega)) hl)⟩

section
variable {b m n k : Nat} {base W : World} {l : List Num} {ax ay : Option Addr} {cx cy : Nat} {xs ys : List Nat}

theorem StB.gcd (h : StB b m base W l) (hx : (ax, cx, xs) ∈ l) (hy : (ay, cy, ys) ∈ l) (hn : V xs = n) (hk : V ys = k) {s : Nat} (hs : Nat.gcd n k = s) (hf : (L s).length ≤ m) (hl : (L s).length ≤ 100000) :
    Calls Tryd.prog 41 #[.pointer (some ⟨b, 0, none⟩), .slice ax xs.length cx, .slice ay ys.length cy] W fun e W' => ∃ a c, e = .returned (.slice a (L s).length c) ∧ Hid (StB b m base W' ((a, c, L s) :: l)) := by
  subst hn hk hs
  exact (Gcd_any b m ax ay xs ys cx cy W false h.bench (h.num hx) (h.num hy) h.tab (by have := h.len hx; omega) (by have := h.len hy; omega)).mono fun e W' hg => h.out hg hf hl
theorem StB.cmp (h : StB b m base W l) (hx : (ax, cx, xs) ∈ l) (hy : (ay, cy, ys) ∈ l) (hn : V xs = n) (hk : V ys = k) :
    Calls Tryd.prog 39 #[.slice ax xs.length cx, .slice ay ys.length cy] W fun e W' => e = .returned (.int .i64 (cmpI n k)) ∧ Hid (StB b m base W' l) := by
  subst hn hk
  refine (Cmp_any ax ay xs ys cx cy W (h.num hx).lim (h.num hy).lim (h.num hx).reads (h.num hy).reads (by have := h.len hx; omega) (h.num hx).le (h.num hx).cap (h.num hy).le (h.num hy).cap).mono ?_
  rintro e W' ⟨rfl, hb⟩
  exact ⟨rfl, Lib.hid (h.kept hb)⟩
theorem StB.zero (h : StB b m base W l) : StB b m base W ((none, 0, []) :: l) := h.cons ((NumAt.zero W).inn (by simp [L_zero])) (by simp)
end

theorem L_add {n k a b : Nat} (h1 : (L n).length ≤ a) (h2 : (L k).length ≤ b) : (L (n + k)).length ≤ max a b + 1 := by
  rw [L_len] at *
  have p1 : 4294967296 ^ a ≤ 4294967296 ^ max a b := Nat.pow_le_pow_right (by omega) (by omega)
  have p2 : 4294967296 ^ b ≤ 4294967296 ^ max a b := Nat.pow_le_pow_right (by omega) (by omega)
  rw [Nat.pow_succ]
  omega
theorem L_mul {n k a b : Nat} (h1 : (L n).length ≤ a) (h2 : (L k).length ≤ b) : (L (n * k)).length ≤ a + b := by
  rw [L_len] at *
  rw [Nat.pow_add]
  exact Nat.mul_lt_mul'' h1 h2
theorem L_le {n k a : Nat} (h1 : (L n).length ≤ a) (h : k ≤ n) : (L k).length ≤ a := Nat.le_trans (rep_len_mono (by omega) h) h1
theorem L_gcd {n k a b : Nat} (h1 : (L n).length ≤ a) (h2 : (L k).length ≤ b) : (L (Nat.gcd n k)).length ≤ max a b := by
  rcases Nat.eq_zero_or_pos n with h | h
  · subst h; rw [Nat.gcd_zero_left]; omega
  · have := L_le h1 (Nat.le_of_dvd h (Nat.gcd_dvd_left n k)); omega
theorem V_len {xs : List Nat} {a : Nat} (h : Lim xs) (hl : xs.length ≤ a) : (L (V xs)).length ≤ a := Nat.le_trans (cutAt_len xs h) hl
end Go.Proofs.YtmiocohlklnglaaDoor


/-
  Ratio's helpers on natural numbers: isZero, isOne, common, without, cancel.
-/
set_option linter.unusedVariables false
set_option linter.unusedSimpArgs false
namespace Go.Proofs.YtmiocohlklnglaaDoor
open Go.RowKit Rep

/-- At a lie so many limbs, which tell n. -/
structure NumE (w : World) (a : Option Addr) (len c n : Nat) : Prop where
  ex : ∃ xs : List Nat, xs.length = len ∧ V xs = n ∧ NumIn w a c xs
theorem NumE.kept {w w' : World} {a : Option Addr} {len c n : Nat} (h : NumE w a len c n) (hb : Below w.heap.size w w') : NumE w' a len c n := by
  obtain ⟨xs, h1, h2, h3⟩ := h.ex
  exact ⟨xs, h1, h2, h3.kept hb⟩
theorem NumE.of {w : World} {a : Option Addr} {c n : Nat} (h : NumAt w a c n) (hl : (L n).length ≤ 1073741824) : NumE w a (L n).length c n := ⟨L n, rfl, V_L n, h.inn hl⟩
theorem NumE.inn {w : World} {a : Option Addr} {c : Nat} {xs : List Nat} (h : NumIn w a c xs) : NumE w a xs.length c (V xs) := ⟨xs, rfl, rfl, h⟩
theorem NumE.lenL {w : World} {a : Option Addr} {len c n : Nat} (h : NumE w a len c n) : (L n).length ≤ len := by
  obtain ⟨xs, rfl, rfl, h3⟩ := h.ex
  exact cutAt_len xs h3.lim
theorem NumE.zero (w : World) : NumE w none 0 0 0 := ⟨[], rfl, rfl, (NumAt.zero w).inn (by simp [L_zero])⟩
theorem NumE.one (w : World) : NumE (w.alloc (.cells #[.int .u32 1] 71)) (some ⟨w.heap.size, 0, none⟩) 1 1 1 := ⟨[1], rfl, rfl, limbs1 w 1 (by omega)⟩
/-- A call gives n, in so many limbs at most, and leaves what there was as it was. -/
def GivesE (k n : Nat) (w : World) (e : Ending) (w' : World) : Prop := ∃ a len c, e = .returned (.slice a len c) ∧ NumE w' a len c n ∧ len ≤ k ∧ Below w.heap.size w w'
/-- A call tells a truth, and leaves what there was as it was. -/
def GivesB (v : Bool) (w : World) (e : Ending) (w' : World) : Prop := e = .returned (.bool v) ∧ Below w.heap.size w w'

theorem cmpE {w : World} {a b : Option Addr} {la lb ca cb n k : Nat} (h1 : NumE w a la ca n) (h2 : NumE w b lb cb k) : Calls Tryd.prog 39 #[.slice a la ca, .slice b lb cb] w (GivesInt (cmpI n k) w) := by
  obtain ⟨xs, rfl, rfl, hx⟩ := h1.ex
  obtain ⟨ys, rfl, rfl, hy⟩ := h2.ex
  exact Cmp_any a b xs ys ca cb w hx.lim hy.lim hx.reads hy.reads hx.len hx.le hx.cap hy.le hy.cap
theorem cmp_ne {n k : Nat} (h : n ≠ k) : ((cmpI (n : Int) (k : Int)) == 0) = false := by
  unfold cmpI
  by_cases h1 : n < k
  · rw [if_pos (by omega)]; rfl
  · rw [if_neg (by omega), if_neg (by omega)]; rfl

set_option maxRecDepth 100000 in
set_option maxHeartbeats 400000 in
theorem isOne_any {w : World} {a : Option Addr} {len c n : Nat} (h : NumE w a len c n) : Calls Tryd.prog 37 #[.slice a len c] w (GivesB (decide (n = 1)) w) := by
  have hb0 : Below w.heap.size w (w.alloc (.cells #[.int .u32 1] 71)) := (Below.refl _ _).alloc (Nat.le_refl _) _
  have HC := Lib.hid (cmpE (h.kept hb0) (NumE.one w))
  have HB0 := Lib.hid hb0
  clear h hb0
  by_cases hn : n = 1
  · rw [hn, cmpI_self] at HC
    rw [decide_eq_true hn]
    clear hn
    go_enter Tryd.func37, Tryd.ntmps37
    go_wp2_with fail
    refine HC.out.mono ?_
    rintro e w2 ⟨rfl, hb⟩
    have HB := Lib.hid (HB0.out.trans (hb.mono HB0.out.size))
    clear hb HC
    go_wp2_with fail
    go_ret
    exact ⟨rfl, HB.out⟩
  · have hz := cmp_ne hn
    rw [decide_eq_false hn]
    generalize cmpI (n : Int) ((1 : Nat) : Int) = cm at *
    clear hn
    go_enter Tryd.func37, Tryd.ntmps37
    go_wp2_with fail
    refine HC.out.mono ?_
    rintro e w2 ⟨rfl, hb⟩
    have HB := Lib.hid (HB0.out.trans (hb.mono HB0.out.size))
    clear hb HC
    go_wp2_with fail
    go_ret
    exact ⟨rfl, HB.out⟩

/-- The bench for what is reckoned on the way. -/
abbrev wayW (w : World) : World := w.alloc (.cells #[.int .i64 2147483647, .bool false] 82)
theorem wayW_below (w : World) : Below w.heap.size w (wayW w) := (Below.refl _ _).alloc (Nat.le_refl _) _
theorem wayW_bench (w : World) : Bench (wayW w) w.heap.size 2147483647 false := heap_alloc_new w _
set_option maxRecDepth 100000 in
set_option maxHeartbeats 400000 in
theorem unbounded_any (w : World) : Calls Tryd.prog 40 #[] w fun e w' => e = .returned (.pointer (some ⟨w.heap.size, 0, none⟩)) ∧ w' = wayW w := by
  have HN := Lib.hid (new_high 2147483647 w (by omega) (by unfold maxLen; omega))
  go_enter Tryd.func40, Tryd.ntmps40
  go_wp2_with fail
  refine HN.out.mono ?_
  rintro e w2 ⟨rfl, rfl⟩
  go_wp2_with fail
  go_ret
  exact ⟨rfl, rfl⟩

/-- A call on such a bench that is fresh: what it gives, where it doesn't become over. -/
theorem wayE {w W w' : World} {e : Ending} {n k : Nat} (hW : Below w.heap.size w W) (hg : GivesOut W.heap.size 2147483647 false n (wayW W) e w') (hl : (L n).length ≤ k) (hk : k ≤ 1000000) : GivesE k n w e w' := by
  obtain ⟨a, c, rfl, hat, hb, hgr⟩ := hg
  have ho : outO 2147483647 false n = false := by simp [outO]; omega
  have hN : outN 2147483647 false n = n := by unfold outN; rw [ho]; rfl
  rw [hN] at hat ⊢
  have hB : Below W.heap.size W w' := (wayW_below W).grown hgr (by simp) (fun k hk => by cases hk; exact Nat.le_refl _)
  exact ⟨a, _, c, rfl, NumE.of hat (by omega), hl, hW.trans (hB.mono hW.size)⟩

theorem gcdE {w W : World} {a b : Option Addr} {la lb ca cb n k : Nat} (h1 : NumE w a la ca n) (h2 : NumE w b lb cb k) (hT : Tab w) (hW : Below w.heap.size w W) (hl1 : la ≤ 1000000) (hl2 : lb ≤ 1000000) :
    Calls Tryd.prog 41 #[.pointer (some ⟨W.heap.size, 0, none⟩), .slice a la ca, .slice b lb cb] (wayW W) (GivesE (max la lb) (Nat.gcd n k) w) := by
  have hk1 := L_gcd h1.lenL h2.lenL
  obtain ⟨xs, rfl, rfl, hx⟩ := h1.ex
  obtain ⟨ys, rfl, rfl, hy⟩ := h2.ex
  exact (Gcd_any W.heap.size 2147483647 a b xs ys ca cb (wayW W) false (wayW_bench W) ((hx.kept hW).kept (wayW_below W)) ((hy.kept hW).kept (wayW_below W)) ((hT.kept hW).kept (wayW_below W)) hl1 hl2).mono fun e w' hg => wayE hW hg hk1 (by omega)
set_option maxRecDepth 100000 in
set_option maxHeartbeats 1000000 in
theorem common_any {w : World} {a b : Option Addr} {la lb ca cb n k : Nat} (h1 : NumE w a la ca n) (h2 : NumE w b lb cb k) (hT : Tab w) (hl1 : la ≤ 1000000) (hl2 : lb ≤ 1000000) :
    Calls Tryd.prog 38 #[.slice a la ca, .slice b lb cb] w (GivesE (max la lb + 1) (Nat.gcd n k) w) := by
  have HI1 := Lib.hid (isOne_any h1)
  have HI2 := Lib.hid (fun (W : World) (h : Below w.heap.size w W) => isOne_any (h2.kept h))
  have HG := Lib.hid (fun (W : World) (h : Below w.heap.size w W) => gcdE h1 h2 hT h hl1 hl2)
  clear h1 h2 hT
  by_cases c1 : n = 1
  · have hG : Nat.gcd n k = 1 := by rw [c1, Nat.gcd_one_left]
    rw [decide_eq_true c1] at HI1
    rw [hG]
    clear hG c1 HI2 HG
    go_enter Tryd.func38, Tryd.ntmps38
    go_wp2_with fail
    refine HI1.out.mono ?_
    rintro e w2 ⟨rfl, hb⟩
    have HE := Lib.hid (And.intro (NumE.one w2) (hb.alloc hb.size (.cells #[.int .u32 1] 71)))
    clear hb HI1
    go_wp2_with fail
    go_ret
    exact ⟨_, 1, 1, rfl, HE.out.1, by omega, HE.out.2⟩
  · rw [decide_eq_false c1] at HI1
    by_cases c2 : k = 1
    · have hG : Nat.gcd n k = 1 := by rw [c2, Nat.gcd_one_right]
      rw [decide_eq_true c2] at HI2
      rw [hG]
      clear hG c1 c2 HG
      go_enter Tryd.func38, Tryd.ntmps38
      go_wp2_with fail
      refine HI1.out.mono ?_
      rintro e w2 ⟨rfl, hb⟩
      have HB := Lib.hid hb
      clear hb HI1
      go_wp2_with fail
      refine (HI2.out w2 HB.out).mono ?_
      rintro e w3 ⟨rfl, hb3⟩
      have HE := Lib.hid (And.intro (NumE.one w3) ((HB.out.trans (hb3.mono HB.out.size)).alloc (Nat.le_trans HB.out.size hb3.size) (.cells #[.int .u32 1] 71)))
      clear hb3 HI2 HB
      go_wp2_with fail
      go_ret
      exact ⟨_, 1, 1, rfl, HE.out.1, by omega, HE.out.2⟩
    · rw [decide_eq_false c2] at HI2
      generalize Nat.gcd n k = G at *
      clear c1 c2
      go_enter Tryd.func38, Tryd.ntmps38
      go_wp2_with fail
      refine HI1.out.mono ?_
      rintro e w2 ⟨rfl, hb⟩
      have HB := Lib.hid hb
      clear hb HI1
      go_wp2_with fail
      refine (HI2.out w2 HB.out).mono ?_
      rintro e w3 ⟨rfl, hb3⟩
      have HG2 := Lib.hid (HG.out w3 (HB.out.trans (hb3.mono HB.out.size)))
      clear hb3 HI2 HB HG
      go_wp2_with fail
      refine (unbounded_any w3).mono ?_
      rintro e w4 ⟨rfl, rfl⟩
      go_wp2_with fail
      refine HG2.out.mono ?_
      rintro e w5 ⟨a5, l5, c5, rfl, hn, hl, hb⟩
      have HE := Lib.hid (And.intro hn (And.intro hl hb))
      clear hn hl hb HG2
      go_wp2_with fail
      go_ret
      exact ⟨a5, l5, c5, rfl, HE.out.1, by have := HE.out.2.1; omega, HE.out.2.2⟩

/-- Both numbers without what divides both. -/
def GivesC (k1 k2 n1 n2 : Nat) (w : World) (e : Ending) (w' : World) : Prop :=
  ∃ a1 l1 c1 a2 l2 c2, e = .returned (.tuple #[.slice a1 l1 c1, .slice a2 l2 c2]) ∧ NumE w' a1 l1 c1 n1 ∧ NumE w' a2 l2 c2 n2 ∧ l1 ≤ k1 ∧ l2 ≤ k2 ∧ Below w.heap.size w w'

end Go.Proofs.YtmiocohlklnglaaDoor


/-
  Ratios: where they lie; ratio.fit, ratio.Make.
-/
set_option linter.unusedVariables false
set_option linter.unusedSimpArgs false
namespace Go.Proofs.YtmiocohlklnglaaDoor
open Go.RowKit Rep

/-- What a denominator is told by: nothing, where it is 1. -/
def denN (d : Nat) : Nat := if d = 1 then 0 else d
/-- Is a bench over, behind a ratio? -/
def rO (m n d : Nat) : Bool := decide (m < (L n).length) || decide (m < (L (denN d)).length)
/-- A ratio as a value. -/
def ratV (s : Bool) (mag den : Value) : Value := .agg #[.bool s, mag, den]
/-- A ratio's parts: a sign, a magnitude, what its denominator is told by. -/
def rS (m : Nat) (s : Bool) (n d : Nat) : Bool := if rO m n d = true ∨ n = 0 then false else s
def rN (m n d : Nat) : Nat := if rO m n d = true ∨ n = 0 then 0 else n
def rD (m n d : Nat) : Nat := if rO m n d = true ∨ n = 0 then 0 else denN d
/-- A call gives a ratio in new memory, as far as a bench that wasn't over lets it be. -/
def GivesR (b m : Nat) (s : Bool) (n d : Nat) (w : World) (e : Ending) (w' : World) : Prop :=
  ∃ a1 c1 a2 c2, e = .returned (ratV (rS m s n d) (.slice a1 (L (rN m n d)).length c1) (.slice a2 (L (rD m n d)).length c2)) ∧ NumAt w' a1 c1 (rN m n d) ∧ NumAt w' a2 c2 (rD m n d) ∧ Bench w' b m (rO m n d) ∧ w.grownBy w' (some b)
theorem GivesR.none {b m n d : Nat} {s : Bool} {w w' : World} (h : rO m n d = true ∨ n = 0) (hb : Bench w' b m (rO m n d)) (hg : w.grownBy w' (some b)) :
    GivesR b m s n d w (.returned (ratV false (.slice none 0 0) (.slice none 0 0))) w' := by
  have e1 : rS m s n d = false := by unfold rS; rw [if_pos h]
  have e2 : rN m n d = 0 := by unfold rN; rw [if_pos h]
  have e3 : rD m n d = 0 := by unfold rD; rw [if_pos h]
  refine ⟨Option.none, 0, Option.none, 0, ?_, ?_, ?_, hb, hg⟩
  · rw [e1, e2, e3]; rfl
  · rw [e2]; exact NumAt.zero _
  · rw [e3]; exact NumAt.zero _
theorem GivesR.some' {b m n d : Nat} {s : Bool} {w w' : World} {a1 a2 : Option Addr} {c1 c2 : Nat} (ho : rO m n d = false) (h0 : n ≠ 0) (h1 : NumAt w' a1 c1 n) (h2 : NumAt w' a2 c2 (denN d)) (hb : Bench w' b m false) (hg : w.grownBy w' (some b)) :
    GivesR b m s n d w (.returned (ratV s (.slice a1 (L n).length c1) (.slice a2 (L (denN d)).length c2))) w' := by
  have hc : ¬ (rO m n d = true ∨ n = 0) := by rw [ho]; simp [h0]
  have e1 : rS m s n d = s := by unfold rS; rw [if_neg hc]
  have e2 : rN m n d = n := by unfold rN; rw [if_neg hc]
  have e3 : rD m n d = denN d := by unfold rD; rw [if_neg hc]
  exact ⟨a1, c1, a2, c2, by rw [e1, e2, e3], by rw [e2]; exact h1, by rw [e3]; exact h2, by rw [ho]; exact hb, hg⟩

theorem NumE.bench {w w' : World} {b m : Nat} {o : Bool} {a : Option Addr} {len c n : Nat} (h : NumE w a len c n) (hb : Bench w b m o) (hg : w.grownBy w' (some b)) : NumE w' a len c n := by
  obtain ⟨xs, h1, h2, h3⟩ := h.ex
  exact ⟨xs, h1, h2, h3.bench hb hg⟩
theorem NumAt.bench {w w' : World} {b m : Nat} {o : Bool} {a : Option Addr} {c n : Nat} (h : NumAt w a c n) (hb : Bench w b m o) (hg : w.grownBy w' (some b)) : NumAt w' a c n := ⟨h.1.grown hg (hb.apart h.1), h.2⟩

/-- A ratio's three cells, written. -/
def set3 (W : World) (r : Nat) (s : Bool) (v1 v2 : Value) : World := ((W.setCell ⟨r, 0, none⟩ (.bool s)).setCell ⟨r, 1, none⟩ v1).setCell ⟨r, 2, none⟩ v2
/-- Block r holds a ratio. -/
def RatBlock (W : World) (r : Nat) : Prop := ∃ s : Bool, ∃ x1 x2 x3 y1 y2 y3, W.heap[r]? = some (.cells #[.bool s, .slice x1 x2 x3, .slice y1 y2 y3] 37 (0, 0))
theorem RatBlock.apart {W : World} {r : Nat} (h : RatBlock W r) {a : Option Addr} {xs : List Nat} (hr : Reads W a (xs.map u32v)) : xs.map u32v = [] ∨ ∀ g off, a = some ⟨g, off, none⟩ → some g ≠ some r := by
  obtain ⟨s, x1, x2, x3, y1, y2, y3, hh⟩ := h
  rcases hr with hr | ⟨g, off, rfl, hr⟩
  · exact .inl hr
  · by_cases e : xs = []
    · exact .inl (by simp [e])
    · refine .inr fun g' off' hg hb => ?_
      simp at hg hb
      obtain ⟨rfl, rfl⟩ := hg
      subst hb
      have := hr 0 _ (map_getElem? (by cases xs; exact absurd rfl e; simp))
      simp only [World.cell?, hh] at this
      rcases off with _ | _ | _ | off <;> simp [u32v] at this
theorem set3_grown (W : World) (r : Nat) (s : Bool) (v1 v2 : Value) : W.grownBy (set3 W r s v1 v2) (some r) := grownBy_set (grownBy_set (grownBy_set (grown_refl W _)))
theorem NumAt.set3 {W : World} {r : Nat} {a : Option Addr} {c n : Nat} (h : NumAt W a c n) (hb : RatBlock W r) (s : Bool) (v1 v2 : Value) : NumAt (Go.Proofs.YtmiocohlklnglaaDoor.set3 W r s v1 v2) a c n := ⟨h.1.grown (set3_grown W r s v1 v2) (hb.apart h.1), h.2⟩
theorem Bench.set3 {W : World} {b m r : Nat} {o : Bool} (h : Bench W b m o) (hne : b ≠ r) (s : Bool) (v1 v2 : Value) : Bench (Go.Proofs.YtmiocohlklnglaaDoor.set3 W r s v1 v2) b m o := h.of_block ((set3_grown W r s v1 v2).block b h.lt (by simpa using hne))
theorem grown_set3 {w W : World} {b r : Nat} (h : w.grownBy W (some b)) (hr : w.heap.size ≤ r) (s : Bool) (v1 v2 : Value) : w.grownBy (Go.Proofs.YtmiocohlklnglaaDoor.set3 W r s v1 v2) (some b) := by
  have hg := set3_grown W r s v1 v2
  exact ⟨hg.os.trans h.os, hg.tape.trans h.tape, hg.output.trans h.output, Nat.le_trans h.size hg.size, fun k hk hne => (hg.block k (Nat.lt_of_lt_of_le hk h.size) (by simp; omega)).trans (h.block k hk hne)⟩

end Go.Proofs.YtmiocohlklnglaaDoor


/-
  ratio.Make.
-/
set_option linter.unusedVariables false
set_option linter.unusedSimpArgs false
namespace Go.Proofs.YtmiocohlklnglaaDoor
open Go.RowKit Rep

/-- What num through den is in its lowest terms. -/
def mkN (n d : Nat) : Nat := if d = 0 then 0 else n / Nat.gcd n d
def mkD (n d : Nat) : Nat := if d = 0 then 1 else d / Nat.gcd n d

/-- A result's block, as it lies ahead of being written. -/
def Blank (W : World) (r : Nat) : Prop := W.heap[r]? = some (.cells #[.bool false, .slice none 0 0, .slice none 0 0] 37 (0, 0))
theorem Blank.kept {W W' : World} {r : Nat} (h : Blank W r) (hb : Below W.heap.size W W') : Blank W' r := (hb.block r (Array.getElem?_eq_some_iff.1 h).1).trans h
theorem Blank.grown {W W' : World} {r b : Nat} (h : Blank W r) (hg : W.grownBy W' (some b)) (hne : r ≠ b) : Blank W' r := (hg.block r (Array.getElem?_eq_some_iff.1 h).1 (by simpa using hne)).trans h
theorem Blank.rat {W : World} {r : Nat} (h : Blank W r) : RatBlock W r := ⟨_, _, _, _, _, _, _, h⟩
theorem Blank.cells {W : World} {r : Nat} (h : Blank W r) : W.cell? ⟨r, 0, none⟩ = some (.bool false) ∧ W.cell? ⟨r, 1, none⟩ = some (.slice none 0 0) ∧ W.cell? ⟨r, 2, none⟩ = some (.slice none 0 0) ∧ W.frozen? ⟨r, 0, none⟩ = false ∧ W.frozen? ⟨r, 1, none⟩ = false ∧ W.frozen? ⟨r, 2, none⟩ = false := by
  unfold Blank at h
  refine ⟨?_, ?_, ?_, ?_, ?_, ?_⟩
  · simp [World.cell?, h]
  · simp [World.cell?, h]
  · simp [World.cell?, h]
  · simp [World.frozen?, h]
  · simp [World.frozen?, h]
  · simp [World.frozen?, h]

/-- A result is handed on through a block of one's own. -/
theorem GivesR.through {b m n d r : Nat} {s : Bool} {w W W' : World} {e : Ending} (h : GivesR b m s n d W e W') (hW : w.grownBy W (some b)) (hr : w.heap.size ≤ r) (hrb : b ≠ r) (hbl : Blank W r) (hrl : r < W.heap.size) :
    ∃ (t : Bool) (x1 : Option Addr) (x2 x3 : Nat) (y1 : Option Addr) (y2 y3 : Nat), e = .returned (ratV t (.slice x1 x2 x3) (.slice y1 y2 y3)) ∧ Blank W' r ∧ GivesR b m s n d w (.returned (ratV t (.slice x1 x2 x3) (.slice y1 y2 y3))) (set3 W' r t (.slice x1 x2 x3) (.slice y1 y2 y3)) := by
  obtain ⟨a1, c1, a2, c2, rfl, h1, h2, h3, h4⟩ := h
  have hb' := hbl.grown h4 (Ne.symm hrb)
  exact ⟨_, _, _, _, _, _, _, rfl, hb', a1, c1, a2, c2, rfl, h1.set3 hb'.rat _ _ _, h2.set3 hb'.rat _ _ _, h3.set3 hrb _ _ _, grown_set3 (grownBy_trans_new hW h4) hr _ _ _⟩

end Go.Proofs.YtmiocohlklnglaaDoor


/-
  The document's ratios: Same, Int of 0, Low.
-/
set_option linter.unusedVariables false
set_option linter.unusedSimpArgs false
namespace Go.Proofs.YtmiocohlklnglaaDoor
open Go.RowKit Rep

/-- A ratio of digits: a sign, two numbers, in new memory. -/
def GivesDR (s : Bool) (n d : Nat) (w : World) (e : Ending) (w' : World) : Prop :=
  ∃ a1 c1 a2 c2, e = .returned (ratV s (.slice a1 (D n).length c1) (.slice a2 (D d).length c2)) ∧ DAt w' a1 c1 n ∧ DAt w' a2 c2 d ∧ Below w.heap.size w w'

theorem Below.drewN' {B : Nat} {w W : World} (h : Below B w W) (n : Nat) : Below B w (W.drewN n) := ⟨h.os, h.tape, h.output, h.size, h.block⟩
theorem D_one : D 1 = [1] := (eq_rep (b := 10) (by omega) (by simp [Dig]) (by simp [Top]) (by simp [val])).symm

/-- A block of a ratio's cells, of whatever type. -/
theorem cells3 {W : World} {r : Nat} {v0 v1 v2 : Value} {t : TypeId} (h : W.heap[r]? = some (.cells #[v0, v1, v2] t (0, 0))) :
    W.cell? ⟨r, 0, none⟩ = some v0 ∧ W.cell? ⟨r, 1, none⟩ = some v1 ∧ W.cell? ⟨r, 2, none⟩ = some v2 ∧ W.frozen? ⟨r, 0, none⟩ = false ∧ W.frozen? ⟨r, 1, none⟩ = false ∧ W.frozen? ⟨r, 2, none⟩ = false := by
  refine ⟨?_, ?_, ?_, ?_, ?_, ?_⟩
  · simp [World.cell?, h]
  · simp [World.cell?, h]
  · simp [World.cell?, h]
  · simp [World.frozen?, h]
  · simp [World.frozen?, h]
  · simp [World.frozen?, h]

theorem int0_world (w : World) (o1 o4 : Obj) : DAt ((((w.alloc o1).alloc (.cells #[] 3)).alloc (.cells #[.int .i64 1] 3)).alloc o4) (some ⟨w.heap.size + 1 + 1, 0, none⟩) 1 1 ∧
    Below w.heap.size w ((((w.alloc o1).alloc (.cells #[] 3)).alloc (.cells #[.int .i64 1] 3)).alloc o4) := by
  refine ⟨⟨?_, ?_, by simp [maxLen]⟩, ((((Below.refl w.heap.size w).alloc (Nat.le_refl _) _).alloc (by simp) _).alloc (by simp; omega) _).alloc (by simp; omega) _⟩
  · rw [D_one]
    have h := (Row.new (E := 3) ((w.alloc o1).alloc (.cells #[] 3)) #[.int .i64 1]).alloc o4
    simpa [i64v] using h.reads0
  · rw [D_one]; simp

/-- Three cells, written. -/
theorem set3_below {B : Nat} {w W : World} {r : Nat} {s : Bool} {v1 v2 : Value} (h : Below B w W) (hr : B ≤ r) : Below B w (set3 W r s v1 v2) := ((h.setCell (p := ⟨r, 0, none⟩) hr _).setCell (p := ⟨r, 1, none⟩) hr _).setCell (p := ⟨r, 2, none⟩) hr _
/-- Digits aren't where three cells of a ratio lie. -/
theorem DAt.set3 {W : World} {r : Nat} {a : Option Addr} {c n : Nat} {t : TypeId} {s0 : Bool} {x1 y1 : Option Addr} {x2 x3 y2 y3 : Nat} (h : DAt W a c n) (hb : W.heap[r]? = some (.cells #[.bool s0, .slice x1 x2 x3, .slice y1 y2 y3] t (0, 0))) (s : Bool) (v1 v2 : Value) : DAt (Go.Proofs.YtmiocohlklnglaaDoor.set3 W r s v1 v2) a c n := by
  refine ⟨h.1.grown (set3_grown W r s v1 v2) ?_, h.2⟩
  rcases h.1 with hr | ⟨g, off, rfl, hr⟩
  · exact .inl hr
  · by_cases e : D n = []
    · exact .inl (by simp [e])
    · refine .inr fun g' off' hg hbq => ?_
      simp at hg hbq
      obtain ⟨rfl, rfl⟩ := hg
      subst hbq
      have := hr 0 _ (map_getElem? (xs := D n) (f := i64v) (List.length_pos_iff.2 e))
      simp only [World.cell?, hb] at this
      rcases off with _ | _ | _ | off <;> simp [i64v] at this

end Go.Proofs.YtmiocohlklnglaaDoor


/-
  The document's Form.
-/
set_option linter.unusedVariables false
set_option linter.unusedSimpArgs false
namespace Go.Proofs.YtmiocohlklnglaaDoor
open Go.RowKit Rep

/-- It ends as it should, with one of these frames. -/
def OnlyEx {ι : Type} (A : ι → Act) (R : ι → World → Prop) : Exit → Act → World → Prop
  | .normal, a, w => ∃ i, a = A i ∧ R i w
  | _, _, _ => False
theorem OnlyEx.out {ι : Type} {A : ι → Act} {R : ι → World → Prop} {e : Exit} {a : Act} {w : World} (h : OnlyEx A R e a w) : e = .normal ∧ ∃ i, a = A i ∧ R i w := by
  cases e <;> first | exact ⟨rfl, h⟩ | exact h.elim
theorem wp_region_ex {P : Program} {id : Nat} {ops : Array Oper} {Q : Exit → Act → World → Prop} {a : Act} {w : World} {ι : Type} (l : ι → List (Nat × Value)) (R : ι → World → Prop)
    (h : (Code.region id ops true).wp P (OnlyEx (fun i => puts a (l i)) R) a w) (hq : ∀ i w', R i w' → Q .normal (puts a (l i)) w') : (Code.region id ops true).wp P Q a w :=
  Code.wp_mono (fun e a' w' ho => by
    obtain ⟨rfl, i, rfl, hr⟩ := ho.out
    exact hq i w' hr) h

/-- A new block of three cells, and limbs beside it. -/
def FormAt (W : World) (s : Bool) (N : Nat) (i : Nat × Option Addr × Nat) (W' : World) : Prop :=
  W'.heap[i.1]? = some (.cells #[.bool s, .slice i.2.1 (L N).length i.2.2, .slice none 0 0] 37 (0, 0)) ∧ NumAt W' i.2.1 i.2.2 N ∧ Below W.heap.size W W' ∧ W.heap.size ≤ i.1

/-- A ratio in its one form's way of telling: limbs; nothing for a denominator of 1. -/
def GivesAR (s : Bool) (n d : Nat) (w : World) (e : Ending) (w' : World) : Prop :=
  ∃ a1 c1 a2 c2, e = .returned (ratV s (.slice a1 (L n).length c1) (.slice a2 (L (denN d)).length c2)) ∧ NumAt w' a1 c1 n ∧ NumAt w' a2 c2 (denN d) ∧ Below w.heap.size w w'

theorem D_len1 {M : Nat} (h : (D M).length = 1) : M < 10 ∧ D M = [M] := by
  have h1 : M < 10 := by have := (D_len M 1).1 (Nat.le_of_eq h); omega
  refine ⟨h1, ?_⟩
  have h0 : 0 < M := Nat.pos_of_ne_zero fun e => by rw [e] at h; simp [D_zero] at h
  rw [D_cons h0, Nat.mod_eq_of_lt h1, Nat.div_eq_of_lt h1, D_zero]

end Go.Proofs.YtmiocohlklnglaaDoor


/-
  The document's Of: a ratio as digits.
-/
set_option linter.unusedVariables false
set_option linter.unusedSimpArgs false
namespace Go.Proofs.YtmiocohlklnglaaDoor
open Go.RowKit Rep

abbrev OfIx := Nat × (Option Addr × Nat) × (Option Addr × Nat)
/-- What lay there lies there. -/
def Same3 (W w3 : World) : Prop := ∀ r o, r < W.heap.size → w3.cell? ⟨r, o, none⟩ = W.cell? ⟨r, o, none⟩
theorem Same3.of {W w3 : World} (h : Below W.heap.size W w3) : Same3 W w3 := fun r o hr => h.cell (p := ⟨r, o, none⟩) hr
end Go.Proofs.YtmiocohlklnglaaDoor


/-
  Ratios in memory, said of rational numbers: what a bench lets one be, what is handed in.
-/
set_option linter.unusedVariables false
set_option linter.unusedSimpArgs false
namespace Go.Proofs.YtmiocohlklnglaaDoor
open Go.RowKit Rep

/-- What a bench for m limbs lets a rational number be. -/
def ovQ (m : Nat) (q : Rat) : Bool := rO m (mgQ q) q.den
def outQ (m : Nat) (q : Rat) : Rat := if ovQ m q = true then 0 else q
theorem denN_idem (d : Nat) : denN (denN d) = denN d := by
  unfold denN
  by_cases h : d = 1
  · simp [h]
  · simp [h]
theorem den0 : (0 : Rat).den = 1 := rfl

/-- At the two slices lies q, in its one form. -/
structure AtQ (w : World) (a1 : Option Addr) (c1 : Nat) (a2 : Option Addr) (c2 : Nat) (q : Rat) : Prop where
  num : NumAt w a1 c1 (mgQ q)
  den : NumAt w a2 c2 (denN q.den)
theorem AtQ.kept {w w' : World} {a1 : Option Addr} {c1 : Nat} {a2 : Option Addr} {c2 : Nat} {q : Rat} (h : AtQ w a1 c1 a2 c2 q) (hb : Below w.heap.size w w') : AtQ w' a1 c1 a2 c2 q := ⟨h.num.kept hb, h.den.kept hb⟩
theorem AtQ.bench {w w' : World} {b m : Nat} {o : Bool} {a1 : Option Addr} {c1 : Nat} {a2 : Option Addr} {c2 : Nat} {q : Rat} (h : AtQ w a1 c1 a2 c2 q) (hb : Bench w b m o) (hg : w.grownBy w' (some b)) : AtQ w' a1 c1 a2 c2 q := ⟨h.num.bench hb hg, h.den.bench hb hg⟩
theorem AtQ.zero (w : World) : AtQ w none 0 none 0 0 := ⟨NumAt.zero w, NumAt.zero w⟩
/-- A ratio's value. -/
abbrev qV (q : Rat) (a1 : Option Addr) (c1 : Nat) (a2 : Option Addr) (c2 : Nat) : Value := ratV (ngQ q) (.slice a1 (L (mgQ q)).length c1) (.slice a2 (L (denN q.den)).length c2)
/-- A call gives what a bench lets q be, on a bench that wasn't over. -/
def GivesQ (b m : Nat) (q : Rat) (w : World) (e : Ending) (w' : World) : Prop :=
  ∃ a1 c1 a2 c2, e = .returned (qV (outQ m q) a1 c1 a2 c2) ∧ AtQ w' a1 c1 a2 c2 (outQ m q) ∧ Bench w' b m (ovQ m q) ∧ w.grownBy w' (some b)
/-- A call gives q, in new memory. -/
def NewQ (q : Rat) (w : World) (e : Ending) (w' : World) : Prop :=
  ∃ a1 c1 a2 c2, e = .returned (qV q a1 c1 a2 c2) ∧ AtQ w' a1 c1 a2 c2 q ∧ Below w.heap.size w w'

theorem GivesR.q {b m n d : Nat} {s : Bool} {q : Rat} {w w' : World} {e : Ending} (h : GivesR b m s n d w e w') (h1 : mgQ q = n) (h2 : denN q.den = denN d) (h3 : n ≠ 0 → ngQ q = s) : GivesQ b m q w e w' := by
  obtain ⟨a1, c1, a2, c2, rfl, n1, n2, hb, hg⟩ := h
  subst h1
  have ho : rO m (mgQ q) d = ovQ m q := by unfold ovQ rO; rw [h2]
  have key : ngQ (outQ m q) = rS m s (mgQ q) d ∧ mgQ (outQ m q) = rN m (mgQ q) d ∧ denN (outQ m q).den = rD m (mgQ q) d := by
    unfold outQ rS rN rD
    rw [ho]
    by_cases h : ovQ m q = true
    · simp [h, ng_zero, mg_of_zero, den0, denN]
    · by_cases hz : mgQ q = 0
      · have hq := mg_zero.1 hz
        subst hq
        simp [ng_zero, mg_of_zero, den0, denN]
      · simp [h, hz, h2, h3 hz]
  obtain ⟨k1, k2, k3⟩ := key
  refine ⟨a1, c1, a2, c2, ?_, ⟨?_, ?_⟩, ?_, hg⟩
  · unfold qV; rw [k1, k2, k3]
  · rw [k2]; exact n1
  · rw [k3]; exact n2
  · rw [← ho]; exact hb

/-- A ratio that is handed to a call: a sign, two rows of limbs; it tells q (its den may be 1 with a limb, 0 may have a sign). -/
structure RatX (w : World) (s : Bool) (a1 : Option Addr) (l1 c1 : Nat) (a2 : Option Addr) (l2 c2 : Nat) (n d d0 : Nat) (q : Rat) : Prop where
  num : NumE w a1 l1 c1 n
  den : NumE w a2 l2 c2 d0
  thr : d = if l2 = 0 then 1 else d0
  pos : 0 < d
  cop : Nat.gcd n d = 1
  is : mkQ s n d = q
  s1 : l1 ≤ 10000
  s2 : l2 ≤ 10000
theorem RatX.kept {w w' : World} {s : Bool} {a1 : Option Addr} {l1 c1 : Nat} {a2 : Option Addr} {l2 c2 : Nat} {n d d0 : Nat} {q : Rat} (h : RatX w s a1 l1 c1 a2 l2 c2 n d d0 q) (hb : Below w.heap.size w w') : RatX w' s a1 l1 c1 a2 l2 c2 n d d0 q :=
  ⟨h.num.kept hb, h.den.kept hb, h.thr, h.pos, h.cop, h.is, h.s1, h.s2⟩
theorem RatX.bench {w w' : World} {b m : Nat} {o : Bool} {s : Bool} {a1 : Option Addr} {l1 c1 : Nat} {a2 : Option Addr} {l2 c2 : Nat} {n d d0 : Nat} {q : Rat} (h : RatX w s a1 l1 c1 a2 l2 c2 n d d0 q) (hb : Bench w b m o) (hg : w.grownBy w' (some b)) : RatX w' s a1 l1 c1 a2 l2 c2 n d d0 q :=
  ⟨h.num.bench hb hg, h.den.bench hb hg, h.thr, h.pos, h.cop, h.is, h.s1, h.s2⟩
theorem RatX.neg {w : World} {s : Bool} {a1 : Option Addr} {l1 c1 : Nat} {a2 : Option Addr} {l2 c2 : Nat} {n d d0 : Nat} {q : Rat} (h : RatX w s a1 l1 c1 a2 l2 c2 n d d0 q) : RatX w (!s) a1 l1 c1 a2 l2 c2 n d d0 (-q) :=
  ⟨h.num, h.den, h.thr, h.pos, h.cop, by rw [mkQ_neg, h.is], h.s1, h.s2⟩
theorem denN_len {d : Nat} (hd : 0 < d) : d = if (L (denN d)).length = 0 then 1 else denN d := by
  simp only [L_len_zero]
  unfold denN
  by_cases h : d = 1
  · simp [h]
  · simp [h]; omega
/-- How many limbs q has. -/
def szQ (q : Rat) : Nat := max (L (mgQ q)).length (L (denN q.den)).length
theorem AtQ.x {w : World} {a1 : Option Addr} {c1 : Nat} {a2 : Option Addr} {c2 : Nat} {q : Rat} (h : AtQ w a1 c1 a2 c2 q) (hs : szQ q ≤ 10000) : RatX w (ngQ q) a1 (L (mgQ q)).length c1 a2 (L (denN q.den)).length c2 (mgQ q) q.den (denN q.den) q := by
  unfold szQ at hs
  exact ⟨NumE.of h.num (by omega), NumE.of h.den (by omega), denN_len (den_pos q), den_pos q, copr q, mkQ_self q, by omega, by omega⟩
theorem szQ_zero : szQ 0 = 0 := rfl

/-! The document's -/
/-- At the two slices lie q's digits. -/
structure DgQ (w : World) (a1 : Option Addr) (c1 : Nat) (a2 : Option Addr) (c2 : Nat) (q : Rat) : Prop where
  num : DAt w a1 c1 (mgQ q)
  den : DAt w a2 c2 q.den
theorem DgQ.kept {w w' : World} {a1 : Option Addr} {c1 : Nat} {a2 : Option Addr} {c2 : Nat} {q : Rat} (h : DgQ w a1 c1 a2 c2 q) (hb : Below w.heap.size w w') : DgQ w' a1 c1 a2 c2 q := ⟨h.num.kept hb, h.den.kept hb⟩
abbrev dV (q : Rat) (a1 : Option Addr) (c1 : Nat) (a2 : Option Addr) (c2 : Nat) : Value := ratV (ngQ q) (.slice a1 (D (mgQ q)).length c1) (.slice a2 (D q.den).length c2)
/-- A call gives q's digits, in new memory. -/
def GivesDQ (q : Rat) (w : World) (e : Ending) (w' : World) : Prop :=
  ∃ a1 c1 a2 c2, e = .returned (dV q a1 c1 a2 c2) ∧ DgQ w' a1 c1 a2 c2 q ∧ Below w.heap.size w w'
theorem GivesDR.q {s : Bool} {n d : Nat} {q : Rat} {w w' : World} {e : Ending} (h : GivesDR s n d w e w') (h1 : ngQ q = s) (h2 : mgQ q = n) (h3 : q.den = d) : GivesDQ q w e w' := by
  subst h1 h2 h3
  obtain ⟨a1, c1, a2, c2, rfl, d1, d2, hb⟩ := h
  exact ⟨a1, c1, a2, c2, rfl, ⟨d1, d2⟩, hb⟩
end Go.Proofs.YtmiocohlklnglaaDoor


/-
  ratio.through; the document's Mul, of ratios.
-/
set_option linter.unusedVariables false
set_option linter.unusedSimpArgs false
namespace Go.Proofs.YtmiocohlklnglaaDoor
open Go.RowKit Rep

/-- Digits, and what lay below. -/
def PostD (W0 W : World) (n : Nat) (e : Ending) (w' : World) : Prop := ∃ a c, e = .returned (.slice a (D n).length c) ∧ DAt w' a c n ∧ Below W0.heap.size W0 w' ∧ Below W.heap.size W w'
theorem D_mul {n m a b : Nat} (h1 : (D n).length ≤ a) (h2 : (D m).length ≤ b) : (D (n * m)).length ≤ a + b := by
  rw [D_len] at *
  rw [Nat.pow_add]
  exact Nat.mul_lt_mul'' h1 h2
theorem below_drew (W : World) : Below W.heap.size W W.drew := ⟨rfl, rfl, rfl, Nat.le_refl _, fun _ _ => rfl⟩
/-- A block of three cells stays. -/
theorem keep3 {W0 : World} {r1 : Nat} {v0 v1 v2 : Value} {t : TypeId} (h1 : W0.heap[r1]? = some (.cells #[v0, v1, v2] t (0, 0))) (W : World) (h : Below W0.heap.size W0 W) :
    W.cell? ⟨r1, 0, none⟩ = some v0 ∧ W.cell? ⟨r1, 1, none⟩ = some v1 ∧ W.cell? ⟨r1, 2, none⟩ = some v2 ∧ W.frozen? ⟨r1, 0, none⟩ = false ∧ W.frozen? ⟨r1, 1, none⟩ = false ∧ W.frozen? ⟨r1, 2, none⟩ = false :=
  cells3 ((h.block _ (Array.getElem?_eq_some_iff.1 h1).1).trans h1)
/-- A result of digits is written into its block. -/
theorem fin_D {w W0 : World} {r : Nat} {q : Rat} {t : TypeId} (hB0 : Below w.heap.size w W0) (hr : w.heap.size ≤ r) (b3 : W0.heap[r]? = some (.cells #[.bool false, .slice none 0 0, .slice none 0 0] t (0, 0))) (W : World) (a7 : Option Addr) (c7 : Nat) (a8 : Option Addr) (c8 : Nat) (hd : DgQ W a7 c7 a8 c8 q) (hb : Below W0.heap.size W0 W) :
    GivesDQ q w (.returned (dV q a7 c7 a8 c8)) (set3 W r (ngQ q) (.slice a7 (D (mgQ q)).length c7) (.slice a8 (D q.den).length c8)) := by
  have hb' : W.heap[r]? = some (.cells #[.bool false, .slice none 0 0, .slice none 0 0] t (0, 0)) := (hb.block _ (Array.getElem?_eq_some_iff.1 b3).1).trans b3
  exact ⟨a7, c7, a8, c8, rfl, ⟨hd.num.set3 hb' _ _ _, hd.den.set3 hb' _ _ _⟩, set3_below (hB0.trans (hb.mono hB0.size)) hr⟩
/-- Two blocks of three cells stay. -/
theorem keep6 {W0 : World} {r1 r2 : Nat} {v0 v1 v2 u0 u1 u2 : Value} {t t' : TypeId} (h1 : W0.heap[r1]? = some (.cells #[v0, v1, v2] t (0, 0))) (h2 : W0.heap[r2]? = some (.cells #[u0, u1, u2] t' (0, 0))) (W : World) (h : Below W0.heap.size W0 W) :
    W.cell? ⟨r1, 0, none⟩ = some v0 ∧ W.cell? ⟨r1, 1, none⟩ = some v1 ∧ W.cell? ⟨r1, 2, none⟩ = some v2 ∧ W.cell? ⟨r2, 0, none⟩ = some u0 ∧ W.cell? ⟨r2, 1, none⟩ = some u1 ∧ W.cell? ⟨r2, 2, none⟩ = some u2 := by
  obtain ⟨a, b, c, _⟩ := cells3 ((h.block _ (Array.getElem?_eq_some_iff.1 h1).1).trans h1)
  obtain ⟨d, e, f, _⟩ := cells3 ((h.block _ (Array.getElem?_eq_some_iff.1 h2).1).trans h2)
  exact ⟨a, b, c, d, e, f⟩
/-- Three new blocks. -/
theorem boxes3 (w : World) (v1 v2 v3 : Array Value) (t1 t2 t3 : TypeId) : ∃ W0, W0 = ((w.alloc (.cells v1 t1)).alloc (.cells v2 t2)).alloc (.cells v3 t3) ∧ Below w.heap.size w W0 ∧
    W0.heap[w.heap.size]? = some (.cells v1 t1 (0, 0)) ∧ W0.heap[w.heap.size + 1]? = some (.cells v2 t2 (0, 0)) ∧ W0.heap[w.heap.size + 1 + 1]? = some (.cells v3 t3 (0, 0)) ∧ W0.heap.size = w.heap.size + 1 + 1 + 1 := by
  refine ⟨_, rfl, (((Below.refl _ _).alloc (Nat.le_refl _) _).alloc (by simp) _).alloc (by simp; omega) _, ?_, ?_, ?_, by simp⟩
  · rw [Below.heap_alloc _ _ _ (by simp; omega), Below.heap_alloc _ _ _ (by simp)]; exact heap_alloc_new w _
  · rw [Below.heap_alloc _ _ _ (by simp)]; simpa using heap_alloc_new (w.alloc (.cells v1 t1)) (.cells v2 t2)
  · simpa using heap_alloc_new ((w.alloc (.cells v1 t1)).alloc (.cells v2 t2)) (.cells v3 t3)

end Go.Proofs.YtmiocohlklnglaaDoor


/-
  The document's Neg, Div, Add, Cmp of ratios; Fits.
-/
set_option linter.unusedVariables false
set_option linter.unusedSimpArgs false
namespace Go.Proofs.YtmiocohlklnglaaDoor
open Go.RowKit Rep

theorem Below.drew1 {B : Nat} {w W : World} (h : Below B w W) : Below B w W.drew := ⟨h.os, h.tape, h.output, h.size, h.block⟩
/-- Two new blocks. -/
theorem boxes2 (w : World) (v1 v2 : Array Value) (t1 t2 : TypeId) : ∃ W0, W0 = ((w.alloc (.cells v1 t1)).alloc (.cells v2 t2)) ∧ Below w.heap.size w W0 ∧
    W0.heap[w.heap.size]? = some (.cells v1 t1 (0, 0)) ∧ W0.heap[w.heap.size + 1]? = some (.cells v2 t2 (0, 0)) ∧ W0.heap.size = w.heap.size + 1 + 1 := by
  refine ⟨_, rfl, ((Below.refl _ _).alloc (Nat.le_refl _) _).alloc (by simp) _, ?_, ?_, by simp⟩
  · rw [Below.heap_alloc _ _ _ (by simp)]; exact heap_alloc_new w _
  · simpa using heap_alloc_new (w.alloc (.cells v1 t1)) (.cells v2 t2)

theorem D_add {n m a b : Nat} (h1 : (D n).length ≤ a) (h2 : (D m).length ≤ b) : (D (n + m)).length ≤ max a b + 1 := by
  rw [D_len] at *
  have p1 : 10 ^ a ≤ 10 ^ max a b := Nat.pow_le_pow_right (by omega) (by omega)
  have p2 : 10 ^ b ≤ 10 ^ max a b := Nat.pow_le_pow_right (by omega) (by omega)
  rw [Nat.pow_succ]
  omega

end Go.Proofs.YtmiocohlklnglaaDoor


/-
  ratio.addWholes.
-/
set_option linter.unusedVariables false
set_option linter.unusedSimpArgs false
namespace Go.Proofs.YtmiocohlklnglaaDoor
open Go.RowKit Rep

/-! A bench for what is reckoned on the way, and what its calls change. -/
def StepW (t : Nat) (W0 W : World) : Prop := W0.grownBy W (some t) ∧ Bench W t 2147483647 false
theorem StepW.refl {t : Nat} {W0 : World} (h : Bench W0 t 2147483647 false) : StepW t W0 W0 := ⟨grown_refl _ _, h⟩
theorem StepW.trans {t : Nat} {W0 W1 W2 : World} (h : StepW t W0 W1) (k : StepW t W1 W2) : StepW t W0 W2 :=
  ⟨⟨k.1.os.trans h.1.os, k.1.tape.trans h.1.tape, k.1.output.trans h.1.output, Nat.le_trans h.1.size k.1.size, fun i hi hne => (k.1.block i (Nat.lt_of_lt_of_le hi h.1.size) hne).trans (h.1.block i hi hne)⟩, k.2⟩
theorem StepW.below {t : Nat} {W0 W1 W2 : World} (h : StepW t W0 W1) (k : Below W1.heap.size W1 W2) : StepW t W0 W2 := h.trans ⟨grown_of_below k _, h.2.kept k⟩
theorem StepW.drew {t : Nat} {W0 W1 : World} (h : StepW t W0 W1) : StepW t W0 W1.drew := h.below (below_drew _)
theorem StepW.num {t : Nat} {W0 W : World} {a : Option Addr} {l c n : Nat} (h : StepW t W0 W) (h0 : Bench W0 t 2147483647 false) (hn : NumE W0 a l c n) : NumE W a l c n := hn.bench h0 h.1
theorem StepW.block {t : Nat} {W0 W : World} (h : StepW t W0 W) {r : Nat} {o : Obj} (hr : W0.heap[r]? = some o) (hne : r ≠ t) : W.heap[r]? = some o := (h.1.block r (Array.getElem?_eq_some_iff.1 hr).1 (by simpa using hne)).trans hr
theorem StepW.base {t : Nat} {w W0 W : World} (h : StepW t W0 W) (hb : Below w.heap.size w W0) (ht : w.heap.size ≤ t) : Below w.heap.size w W := hb.grown h.1 hb.size (fun k hk => by cases hk; exact ht)
theorem StepW.tab {t : Nat} {W0 W : World} (h : StepW t W0 W) (h0 : Bench W0 t 2147483647 false) (hT : Tab W0) : Tab W := hT.bench h0 h.1

/-- A number, reckoned on such a bench. -/
def PostW (t : Nat) (W0 W : World) (k n : Nat) (e : Ending) (W' : World) : Prop := ∃ a l c, e = .returned (.slice a l c) ∧ NumE W' a l c n ∧ l ≤ k ∧ StepW t W0 W' ∧ StepW t W W'
theorem GivesOut.w {t n k : Nat} {W0 W W' : World} {e : Ending} (h : GivesOut t 2147483647 false n W e W') (hs : StepW t W0 W) (hl : (L n).length ≤ k) (hk : k ≤ 1000000) : PostW t W0 W k n e W' := by
  obtain ⟨a, c, rfl, hat, hb, hgr⟩ := h
  have ho : outO 2147483647 false n = false := by simp [outO]; omega
  have hN : outN 2147483647 false n = n := by unfold outN; rw [ho]; rfl
  rw [ho] at hb
  rw [hN] at hat ⊢
  exact ⟨a, _, c, rfl, NumE.of hat (by omega), hl, hs.trans ⟨hgr, hb⟩, ⟨hgr, hb⟩⟩
section
variable {W0 : World} {t : Nat} {a b : Option Addr} {la lb ca cb n k : Nat}
end

/-- A call gives an integer. -/
def GivesWh (k : Nat) (s : Bool) (n : Nat) (w : World) (e : Ending) (w' : World) : Prop := ∃ a l c, e = .returned (.agg #[.bool s, .slice a l c]) ∧ NumE w' a l c n ∧ l ≤ k ∧ Below w.heap.size w w'
theorem cells2 {W : World} {r : Nat} {v0 v1 : Value} {t : TypeId} (h : W.heap[r]? = some (.cells #[v0, v1] t (0, 0))) :
    W.cell? ⟨r, 0, none⟩ = some v0 ∧ W.cell? ⟨r, 1, none⟩ = some v1 ∧ W.frozen? ⟨r, 0, none⟩ = false ∧ W.frozen? ⟨r, 1, none⟩ = false := by
  refine ⟨?_, ?_, ?_, ?_⟩
  · simp [World.cell?, h]
  · simp [World.cell?, h]
  · simp [World.frozen?, h]
  · simp [World.frozen?, h]
/-- Limbs aren't where an integer's cells lie. -/
theorem NumE.set2 {W : World} {r : Nat} {a : Option Addr} {l c n : Nat} {s0 : Bool} {v0 : Value} {t : TypeId} (h : NumE W a l c n) (hb : W.heap[r]? = some (.cells #[.bool s0, v0] t (0, 0))) (hv : ∀ d : Nat, v0 ≠ u32v d) (s : Bool) (v1 : Value) : NumE ((W.setCell ⟨r, 0, none⟩ (.bool s)).setCell ⟨r, 1, none⟩ v1) a l c n := by
  obtain ⟨xs, rfl, rfl, hx⟩ := h.ex
  refine ⟨xs, rfl, rfl, ⟨hx.lim, hx.reads.grown (row := some r) (grownBy_set (grownBy_set (grown_refl W _))) ?_, hx.le, hx.cap, hx.len⟩⟩
  rcases hx.reads with hr | ⟨g, off, rfl, hr⟩
  · exact .inl hr
  · by_cases e : xs = []
    · exact .inl (by simp [e])
    · refine .inr fun g' off' hg hbq => ?_
      simp at hg hbq
      obtain ⟨rfl, rfl⟩ := hg
      subst hbq
      have := hr 0 _ (map_getElem? (xs := xs) (f := u32v) (List.length_pos_iff.2 e))
      simp only [World.cell?, hb] at this
      rcases off with _ | _ | off
      · simp [u32v] at this
      · simp at this; exact hv _ this
      · simp at this

/-- Two blocks of two cells stay. -/
theorem keep4 {W0 : World} {t r1 r2 : Nat} {v0 v1 u0 u1 : Value} {ty ty' : TypeId} (h1 : W0.heap[r1]? = some (.cells #[v0, v1] ty (0, 0))) (h2 : W0.heap[r2]? = some (.cells #[u0, u1] ty' (0, 0))) (n1 : r1 ≠ t) (n2 : r2 ≠ t) (W : World) (h : StepW t W0 W) :
    W.cell? ⟨r1, 0, none⟩ = some v0 ∧ W.cell? ⟨r1, 1, none⟩ = some v1 ∧ W.cell? ⟨r2, 0, none⟩ = some u0 ∧ W.cell? ⟨r2, 1, none⟩ = some u1 := by
  obtain ⟨a, b, _⟩ := cells2 (h.block h1 n1)
  obtain ⟨d, e, _⟩ := cells2 (h.block h2 n2)
  exact ⟨a, b, d, e⟩
theorem keep2 {W0 : World} {t r1 : Nat} {v0 v1 : Value} {ty : TypeId} (h1 : W0.heap[r1]? = some (.cells #[v0, v1] ty (0, 0))) (n1 : r1 ≠ t) (W : World) (h : StepW t W0 W) :
    W.cell? ⟨r1, 0, none⟩ = some v0 ∧ W.cell? ⟨r1, 1, none⟩ = some v1 ∧ W.frozen? ⟨r1, 0, none⟩ = false ∧ W.frozen? ⟨r1, 1, none⟩ = false := cells2 (h.block h1 n1)
/-- An integer is written into its result's block. -/
theorem fin_Wh {w W0 : World} {t r k n : Nat} {s : Bool} {ty : TypeId} (hB0 : Below w.heap.size w W0) (hr : w.heap.size ≤ r) (ht : w.heap.size ≤ t) (hrt : r ≠ t) (b3 : W0.heap[r]? = some (.cells #[.bool false, .slice none 0 0] ty (0, 0))) (W : World) (a : Option Addr) (l c : Nat) (hn : NumE W a l c n) (hl : l ≤ k) (hs : StepW t W0 W) :
    GivesWh k s n w (.returned (.agg #[.bool s, .slice a l c])) ((W.setCell ⟨r, 0, none⟩ (.bool s)).setCell ⟨r, 1, none⟩ (.slice a l c)) :=
  ⟨a, l, c, rfl, hn.set2 (hs.block b3 hrt) (fun d h => by simp [u32v] at h) _ _, hl, ((hs.base hB0 ht).setCell (p := ⟨r, 0, none⟩) hr _).setCell (p := ⟨r, 1, none⟩) hr _⟩

/-- Two integers' blocks, written anew. -/
theorem set4 {w W : World} {tt r1 r2 r3 : Nat} {s t s' t' : Bool} {v1 v2 v1' v2' : Value} {ty : TypeId} {o : Obj} (hB : Below w.heap.size w W) (hbe : Bench W tt 2147483647 false) (c1 : W.heap[r1]? = some (.cells #[.bool s, v1] ty (0, 0))) (c2 : W.heap[r2]? = some (.cells #[.bool t, v2] ty (0, 0))) (c3 : W.heap[r3]? = some o)
    (h12 : r1 ≠ r2) (h13 : r1 ≠ r3) (h23 : r2 ≠ r3) (h1t : r1 ≠ tt) (h2t : r2 ≠ tt) (g1 : w.heap.size ≤ r1) (g2 : w.heap.size ≤ r2) (e1 : ∀ d : Nat, v1 ≠ u32v d) (e2 : ∀ d : Nat, v2 ≠ u32v d) :
    ∃ W2, W2 = ((((W.setCell ⟨r1, 0, none⟩ (.bool s')).setCell ⟨r1, 1, none⟩ v1').setCell ⟨r2, 0, none⟩ (.bool t')).setCell ⟨r2, 1, none⟩ v2') ∧ Below w.heap.size w W2 ∧ Bench W2 tt 2147483647 false ∧
      W2.heap[r1]? = some (.cells #[.bool s', v1'] ty (0, 0)) ∧ W2.heap[r2]? = some (.cells #[.bool t', v2'] ty (0, 0)) ∧ W2.heap[r3]? = some o ∧ ∀ {a l c n}, NumE W a l c n → NumE W2 a l c n := by
  have s2 : ∀ (X : World) (r q : Nat) (u v : Value), q ≠ r → ((X.setCell ⟨r, 0, none⟩ u).setCell ⟨r, 1, none⟩ v).heap[q]? = X.heap[q]? := fun X r q u v h => by
    rw [Below.heap_setCell _ _ _ _ (by simpa using h), Below.heap_setCell _ _ _ _ (by simpa using h)]
  have s3 : ∀ (X : World) (r : Nat) (u v u0 v0 : Value), X.heap[r]? = some (.cells #[u0, v0] ty (0, 0)) → ((X.setCell ⟨r, 0, none⟩ u).setCell ⟨r, 1, none⟩ v).heap[r]? = some (.cells #[u, v] ty (0, 0)) := fun X r u v u0 v0 h => by
    simp [World.setCell, Array.getElem?_modify, h]
  refine ⟨_, rfl, ?_, ?_, ?_, ?_, ?_, ?_⟩
  · exact (((hB.setCell (p := ⟨r1, 0, none⟩) g1 _).setCell (p := ⟨r1, 1, none⟩) g1 _).setCell (p := ⟨r2, 0, none⟩) g2 _).setCell (p := ⟨r2, 1, none⟩) g2 _
  · unfold Bench; rw [s2 _ _ _ _ _ (Ne.symm h2t), s2 _ _ _ _ _ (Ne.symm h1t)]; exact hbe
  · rw [s2 _ _ _ _ _ h12]; exact s3 _ _ _ _ _ _ c1
  · exact s3 _ _ _ _ _ _ ((s2 _ _ _ _ _ (Ne.symm h12)).trans c2)
  · rw [s2 _ _ _ _ _ (Ne.symm h23), s2 _ _ _ _ _ (Ne.symm h13)]; exact c3
  · intro a l c n hn
    exact (hn.set2 c1 e1 _ _).set2 ((s2 _ _ _ _ _ (Ne.symm h12)).trans c2) e2 _ _

end Go.Proofs.YtmiocohlklnglaaDoor


/-
  ratio.Add, on a bench that isn't over.
-/
set_option linter.unusedVariables false
set_option linter.unusedSimpArgs false
namespace Go.Proofs.YtmiocohlklnglaaDoor
open Go.RowKit Rep

/-- A number, in new memory; what lay in two worlds ahead is as it was. -/
def PostE (W0 W : World) (k n : Nat) (e : Ending) (W' : World) : Prop := ∃ a l c, e = .returned (.slice a l c) ∧ NumE W' a l c n ∧ l ≤ k ∧ Below W0.heap.size W0 W' ∧ Below W.heap.size W W'
theorem GivesE.post {W0 W W' : World} {k n : Nat} {e : Ending} (h : GivesE k n W e W') (hb : Below W0.heap.size W0 W) : PostE W0 W k n e W' := by
  obtain ⟨a, l, c, rfl, hn, hl, hbb⟩ := h
  exact ⟨a, l, c, rfl, hn, hl, hb.trans (hbb.mono hb.size), hbb⟩
theorem Tab.kept' {w W0 W : World} (h : Tab w) (h0 : Below w.heap.size w W0) (hb : Below W0.heap.size W0 W) : Tab W := (h.kept h0).kept hb
/-- Cells of two boxed ratios stay. -/
theorem keepS6 {W0 : World} {t r1 r2 : Nat} {v0 v1 v2 u0 u1 u2 : Value} {ty ty' : TypeId} (h1 : W0.heap[r1]? = some (.cells #[v0, v1, v2] ty (0, 0))) (h2 : W0.heap[r2]? = some (.cells #[u0, u1, u2] ty' (0, 0))) (n1 : r1 ≠ t) (n2 : r2 ≠ t) (W : World) (h : StepW t W0 W) :
    W.cell? ⟨r1, 0, none⟩ = some v0 ∧ W.cell? ⟨r1, 1, none⟩ = some v1 ∧ W.cell? ⟨r1, 2, none⟩ = some v2 ∧ W.cell? ⟨r2, 0, none⟩ = some u0 ∧ W.cell? ⟨r2, 1, none⟩ = some u1 ∧ W.cell? ⟨r2, 2, none⟩ = some u2 := by
  obtain ⟨a, b, c, _⟩ := cells3 (h.block h1 n1)
  obtain ⟨d, e, f, _⟩ := cells3 (h.block h2 n2)
  exact ⟨a, b, c, d, e, f⟩
theorem StepW.alloc {t : Nat} {W0 W : World} (h : StepW t W0 W) (o : Obj) : StepW t W0 (W.alloc o) := h.below ((Below.refl _ _).alloc (Nat.le_refl _) o)
/-- Behind the sum of the two integers: where it lies, and what it is. -/
abbrev SumIx := Nat × (Option Addr × Nat × Nat) × (Option Addr × Nat × Nat) × (Option Addr × Nat × Nat)
def SumAt (t : Nat) (W1 : World) (s : Bool) (n K : Nat) (i : SumIx) (W' : World) : Prop :=
  W'.heap[i.1]? = some (.cells #[.bool s, .slice i.2.2.2.1 i.2.2.2.2.1 i.2.2.2.2.2] 35 (0, 0)) ∧ NumE W' i.2.2.2.1 i.2.2.2.2.1 i.2.2.2.2.2 n ∧ i.2.2.2.2.1 ≤ K ∧ StepW t W1 W' ∧ W1.heap.size ≤ i.1
theorem SumAt.new {t : Nat} {W1 w5 : World} {s : Bool} {n K : Nat} {x y : Option Addr × Nat × Nat} {a : Option Addr} {l c : Nat} (d : NumE w5 a l c n) (hl : l ≤ K) (h : StepW t W1 w5) : SumAt t W1 s n K (w5.heap.size, x, y, (a, l, c)) (w5.alloc (.cells #[.bool s, .slice a l c] 35)) :=
  ⟨heap_alloc_new w5 _, d.kept ((Below.refl _ _).alloc (Nat.le_refl _) _), hl, h.alloc _, h.1.size⟩
theorem SumAt.set {t X : Nat} {W1 w5 : World} {s : Bool} {n K : Nat} {x y : Option Addr × Nat × Nat} {a : Option Addr} {l c : Nat} (d : NumE w5 a l c n) (hl : l ≤ K) (h : StepW t W1 w5) (hX : w5.heap[X]? = some (.cells #[.bool false, .slice none 0 0] 35 (0, 0))) (hXt : X ≠ t) (hge : W1.heap.size ≤ X) :
    SumAt t W1 s n K (X, x, y, (a, l, c)) ((w5.setCell ⟨X, 0, none⟩ (.bool s)).setCell ⟨X, 1, none⟩ (.slice a l c)) := by
  refine ⟨by simp [World.setCell, Array.getElem?_modify, hX], d.set2 hX (fun d h => by simp [u32v] at h) _ _, hl, ?_, hge⟩
  have hg := h.1
  refine ⟨⟨hg.os, hg.tape, hg.output, by simpa [World.setCell] using hg.size, fun k hk hne => ?_⟩, ?_⟩
  · rw [Below.heap_setCell _ _ _ _ (by simp; omega), Below.heap_setCell _ _ _ _ (by simp; omega)]
    exact hg.block k hk hne
  · have := h.2
    unfold Bench at this ⊢
    rw [Below.heap_setCell _ _ _ _ (by simpa using Ne.symm hXt), Below.heap_setCell _ _ _ _ (by simpa using Ne.symm hXt)]
    exact this

end Go.Proofs.YtmiocohlklnglaaDoor


/-
  ratio.Mul, Div, Sub, on a bench that isn't over.
-/
set_option linter.unusedVariables false
set_option linter.unusedSimpArgs false
namespace Go.Proofs.YtmiocohlklnglaaDoor
open Go.RowKit Rep

/-- Two numbers, in new memory; what lay in two worlds ahead is as it was. -/
def PostC (W0 W : World) (k1 k2 n1 n2 : Nat) (e : Ending) (W' : World) : Prop := ∃ a1 l1 c1 a2 l2 c2, e = .returned (.tuple #[.slice a1 l1 c1, .slice a2 l2 c2]) ∧ NumE W' a1 l1 c1 n1 ∧ NumE W' a2 l2 c2 n2 ∧ l1 ≤ k1 ∧ l2 ≤ k2 ∧ Below W0.heap.size W0 W' ∧ Below W.heap.size W W'
end Go.Proofs.YtmiocohlklnglaaDoor


/-
  ratio.Sub, Div, on a bench that isn't over.
-/
set_option linter.unusedVariables false
set_option linter.unusedSimpArgs false
namespace Go.Proofs.YtmiocohlklnglaaDoor
open Go.RowKit Rep

theorem AtQ.set3 {W : World} {r : Nat} {a1 : Option Addr} {c1 : Nat} {a2 : Option Addr} {c2 : Nat} {q : Rat} (h : AtQ W a1 c1 a2 c2 q) (hb : RatBlock W r) (s : Bool) (v1 v2 : Value) : AtQ (Go.Proofs.YtmiocohlklnglaaDoor.set3 W r s v1 v2) a1 c1 a2 c2 q := ⟨h.num.set3 hb _ _ _, h.den.set3 hb _ _ _⟩
/-- What a bench lets q be is handed on through a block of one's own. -/
theorem GivesQ.through {b m r : Nat} {q : Rat} {w W W' : World} {e : Ending} (h : GivesQ b m q W e W') (hW : w.grownBy W (some b)) (hr : w.heap.size ≤ r) (hrb : b ≠ r) (hbl : Blank W r) :
    ∃ (tt : Bool) (x1 : Option Addr) (x2 x3 : Nat) (y1 : Option Addr) (y2 y3 : Nat), e = .returned (.agg #[.bool tt, .slice x1 x2 x3, .slice y1 y2 y3]) ∧ Blank W' r ∧ W.grownBy W' (some b) ∧ GivesQ b m q w (.returned (ratV tt (.slice x1 x2 x3) (.slice y1 y2 y3))) (set3 W' r tt (.slice x1 x2 x3) (.slice y1 y2 y3)) := by
  obtain ⟨a1, c1, a2, c2, rfl, h1, h3, h4⟩ := h
  have hb' := hbl.grown h4 (Ne.symm hrb)
  exact ⟨_, _, _, _, _, _, _, rfl, hb', h4, a1, c1, a2, c2, rfl, h1.set3 hb'.rat _ _ _, h3.set3 hrb _ _ _, grown_set3 (grownBy_trans_new hW h4) hr _ _ _⟩
theorem GivesQ.zero {b m r : Nat} {w W : World} (hb : Bench w b m false) (hW : Below w.heap.size w W) (hr : w.heap.size ≤ r) (hbl : Blank W r) : GivesQ b m 0 w (.returned (ratV false (.slice none 0 0) (.slice none 0 0))) (set3 W r false (.slice none 0 0) (.slice none 0 0)) := by
  have hrb : b ≠ r := by have := hb.lt; omega
  have ho : ovQ m 0 = false := by simp [ovQ, rO, mg_of_zero, den0, denN, L_zero]
  have hq : outQ m 0 = 0 := by unfold outQ; rw [ho]; rfl
  refine ⟨none, 0, none, 0, by rw [hq]; rfl, by rw [hq]; exact (AtQ.zero W).set3 hbl.rat _ _ _, by rw [ho]; exact (hb.kept hW).set3 hrb _ _ _, grown_set3 (grown_of_below hW _) hr _ _ _⟩

theorem RatX.inv {w W : World} {s : Bool} {a1 a3 : Option Addr} {l1 c1 : Nat} {a2 : Option Addr} {l2 c2 : Nat} {n d d0 : Nat} {q : Rat} {l3 c3 : Nat} (h : RatX w s a1 l1 c1 a2 l2 c2 n d d0 q) (h1 : NumE W a1 l1 c1 n) (h3 : NumE W a3 l3 c3 d) (hl3 : l3 ≤ 10000) (hn : n ≠ 0) : RatX W s a3 l3 c3 a1 l1 c1 d n n q⁻¹ := by
  have hl : l1 ≠ 0 := fun e => hn (by have := h1.lenL; rw [e] at this; exact L_len_zero.1 (by omega))
  refine ⟨h3, h1, by rw [if_neg hl], Nat.pos_of_ne_zero hn, by rw [Nat.gcd_comm]; exact h.cop, ?_, hl3, h.s1⟩
  rw [mkQ_inv s (Nat.pos_of_ne_zero hn) h.pos, h.is]

end Go.Proofs.YtmiocohlklnglaaDoor


/-
  ratio.Sign, Neg, Cmp; Add, Sub, Mul, Div on a bench that is over.
-/
set_option linter.unusedVariables false
set_option linter.unusedSimpArgs false
namespace Go.Proofs.YtmiocohlklnglaaDoor
open Go.RowKit Rep

/-- A call gives 0, and leaves what there was as it was. -/
def GivesZ (w : World) (e : Ending) (w' : World) : Prop := e = .returned (ratV false (.slice none 0 0) (.slice none 0 0)) ∧ Below w.heap.size w w'

/-- On a bench for what is reckoned on the way nothing becomes over. -/
theorem GivesQ.new {t : Nat} {q : Rat} {w W : World} {e : Ending} (h : GivesQ t 2147483647 q w e W) (hs : szQ q ≤ 1000000) (ht : w.heap.size ≤ t) : NewQ q w e W := by
  obtain ⟨a1, c1, a2, c2, rfl, h1, h3, h4⟩ := h
  have ho : ovQ 2147483647 q = false := by unfold szQ at hs; simp [ovQ, rO]; omega
  have hq : outQ 2147483647 q = q := by unfold outQ; rw [ho]; rfl
  rw [hq] at h1 ⊢
  exact ⟨a1, c1, a2, c2, rfl, h1, (Below.refl w.heap.size w).grown h4 (Nat.le_refl _) (fun k hk => by cases hk; exact ht)⟩

end Go.Proofs.YtmiocohlklnglaaDoor


/-
  The document's Cmp of ratios.
-/
set_option linter.unusedVariables false
set_option linter.unusedSimpArgs false
namespace Go.Proofs.YtmiocohlklnglaaDoor
open Go.RowKit Rep

end Go.Proofs.YtmiocohlklnglaaDoor

